
/- The document's Odd. -/
import Derived.Test.YtijadahpddmhjaaGreatDoorP44
import Derived.Test.YtijadahpddmhjaaGreatDoorP43
import Derived.Test.YtijadahpddmhjaaGreatDoorP9
namespace Go.Proofs.YtijadahpddmhjaaGreatDoor
open Go.RowKit Go.IntWalk

/-- z * 2^B with an odd magnitude, or 0 with the exponent 0. -/
def OddV (w : World) (q : Nat) (e B z : Int) (bd : Nat) : Prop := (z = 0 ∧ NumAt w q 0 bd ∧ e = 0) ∨ ∃ v : Int, ∃ k : Nat, v % 2 = 1 ∧ NumAt w q v bd ∧ e = B + k ∧ z = v * 2 ^ k
set_option maxRecDepth 4000 in
set_option maxHeartbeats 1000000 in
theorem xOdd_zero (p bd : Nat) (e : Int) (w : World) (h : NumAt w p 0 bd) :
    Calls Tryz.prog 25 #[.agg #[.pointer (some ⟨p, 0, none⟩), .int .i64 e]] w fun r w' => ∃ q, r = .returned (.agg #[.pointer (some ⟨q, 0, none⟩), .int .i64 0]) ∧ w.heap.size ≤ q ∧ NumAt w' q 0 0 ∧ Below w.heap.size w w' := by
  obtain ⟨W0, hW0⟩ : ∃ V, Hid ((w.alloc (XBox (some ⟨p, 0, none⟩) e)).alloc (XBox none 0) = V) := ⟨_, rfl⟩
  obtain ⟨g1, g2⟩ := two_blk w (XBox (some ⟨p, 0, none⟩) e) (XBox none 0)
  have HS0 : Hid (W0.heap.size = w.heap.size + 2) := by
    show W0.heap.size = w.heap.size + 2
    rw [← hW0.out]; simp
  have HB0 : Hid (Below w.heap.size w W0) := by
    rw [← hW0.out]
    exact ((Below.refl _ _).alloc (Nat.le_refl _) _).alloc (by simp) _
  rw [hW0.out] at g1 g2
  have HSG : Hid (Calls Tryz.prog 24 #[.pointer (some ⟨p, 0, none⟩)] W0 fun r w' => r = .returned (.int .i64 0) ∧ w' = W0) := NSign p 0 bd W0 (h.below HB0.out)
  obtain ⟨d1, d2, _⟩ := xcells_of (show W0.heap[w.heap.size]? = some (.cells #[.pointer (some ⟨p, 0, none⟩), .int .i64 e] 34) from g1)
  obtain ⟨V1, hV1⟩ : ∃ V, Hid (W0.alloc (.cells #[.bool false, .slice none 0 0] 63) = V) := ⟨_, rfl⟩
  have hr : V1.heap[w.heap.size + 1]? = some (XBox none 0) := by
    rw [← hV1.out]
    show (W0.alloc _).heap[w.heap.size + 1]? = _
    rw [((Below.refl W0.heap.size W0).alloc (Nat.le_refl _) _).block _ (by have := HS0.out; omega)]
    exact g2
  have HNF : Hid (NumAt V1 W0.heap.size 0 0) := by rw [← hV1.out]; exact fresh_num W0
  have HBV : Hid (Below w.heap.size w V1) := by rw [← hV1.out]; exact HB0.out.alloc HB0.out.size _
  obtain ⟨z1, z2, z3⟩ := xcells_of (show V1.heap[w.heap.size + 1]? = some (.cells #[.pointer none, .int .i64 0] 34) from hr)
  have HR := hid hr
  unfold XBox at hW0
  have hW0' := hW0.out
  have hV1' := hV1.out
  clear h g1 g2 hr
  go_enter Tryz.func25, Tryz.ntmps25
  go_wp2_with fail
  refine HSG.out.mono ?_
  rintro r w1 ⟨rfl, rfl⟩
  go_wp2
  exact bodyPost_ret (v := .agg #[.pointer (some ⟨w1.heap.size, 0, none⟩), .int .i64 0]) (by simp [results, Tryz.results25, go_sem, z1, z2]) rfl ⟨w1.heap.size, rfl, by have := HS0.out; omega, HNF.out.stored (by have := HS0.out; omega) HR.out _ _, Below.setCell (Below.setCell HBV.out (by simp) _) (by simp) _⟩
set_option maxRecDepth 4000 in
set_option maxHeartbeats 1000000 in
theorem xOdd_some (p bd : Nat) (v e : Int) (w : World) (h : NumAt w p v bd) (hv : v ≠ 0) (hbd : bd ≤ 400000) (he1 : -1000000 ≤ e) (he2 : e ≤ 1000000) (hT : Tab32 w) (hs : 1 < w.heap.size) :
    Calls Tryz.prog 25 #[.agg #[.pointer (some ⟨p, 0, none⟩), .int .i64 e]] w fun r w' => ∃ q, ∃ T m : Nat, r = .returned (.agg #[.pointer (some ⟨q, 0, none⟩), .int .i64 (e + T)]) ∧ w.heap.size ≤ q ∧ v.natAbs = 2 ^ T * m ∧ m % 2 = 1 ∧ T ≤ 32 * bd ∧ NumAt w' q (sgM v m) (bd + 1) ∧ Below w.heap.size w w' := by
  obtain ⟨W0, hW0⟩ : ∃ V, Hid ((w.alloc (XBox (some ⟨p, 0, none⟩) e)).alloc (XBox none 0) = V) := ⟨_, rfl⟩
  obtain ⟨g1, g2⟩ := two_blk w (XBox (some ⟨p, 0, none⟩) e) (XBox none 0)
  have HS0 : Hid (W0.heap.size = w.heap.size + 2) := by
    show W0.heap.size = w.heap.size + 2
    rw [← hW0.out]; simp
  have HB0 : Hid (Below w.heap.size w W0) := by
    rw [← hW0.out]
    exact ((Below.refl _ _).alloc (Nat.le_refl _) _).alloc (by simp) _
  rw [hW0.out] at g1 g2
  have hs1 : ¬ sgnZ v = 0 := by unfold sgnZ; split <;> (try split) <;> omega
  have HSG : Hid (Calls Tryz.prog 24 #[.pointer (some ⟨p, 0, none⟩)] W0 fun r w' => r = .returned (.int .i64 (sgnZ v)) ∧ w' = W0) := NSign p v bd W0 (h.below HB0.out)
  obtain ⟨S, hS⟩ : ∃ S, Hid (sgnZ v = S) := ⟨_, rfl⟩
  rw [hS.out] at HSG hs1
  have HTZ : Hid (Calls Tryz.prog 52 #[.pointer (some ⟨p, 0, none⟩)] W0 fun r w' => ∃ T m : Nat, r = .returned (.int .u64 T) ∧ Hid (v.natAbs = 2 ^ T * m ∧ m % 2 = 1) ∧ T ≤ 32 * bd ∧ Hid (Below W0.heap.size W0 w')) := by
    refine (NTz p bd v W0 (h.below HB0.out) hv (by omega) (hT.below hs HB0.out) (Nat.lt_of_lt_of_le hs HB0.out.size)).mono ?_
    rintro r w' ⟨T, m, rfl, f1, f2, f3, f4⟩
    exact ⟨T, m, rfl, ⟨f1, f2⟩, f3, f4⟩
  obtain ⟨d1, d2, _⟩ := xcells_of (show W0.heap[w.heap.size]? = some (.cells #[.pointer (some ⟨p, 0, none⟩), .int .i64 e] 34) from g1)
  have H := hid h
  have HG := hid (And.intro g1 g2)
  unfold XBox at hW0
  have hW0' := hW0.out
  clear h hv g1 g2 hT hs
  go_enter Tryz.func25, Tryz.ntmps25
  go_wp2_with fail
  refine HSG.out.mono ?_
  rintro r w1 ⟨rfl, rfl⟩
  go_wp2_with fail
  refine HTZ.out.mono ?_
  rintro r w2 ⟨T, m, rfl, HTM, hTl, HB2⟩
  have hs0 := HS0.out
  have hsz : w.heap.size + 2 ≤ w2.heap.size := by have := HB2.out.size; omega
  have g1 : w2.heap[w.heap.size]? = some (XBox (some ⟨p, 0, none⟩) e) := by rw [HB2.out.block _ (by omega)]; exact HG.out.1
  have g2 : w2.heap[w.heap.size + 1]? = some (XBox none 0) := by rw [HB2.out.block _ (by omega)]; exact HG.out.2
  have HBw2 : Hid (Below w.heap.size w w2) := HB0.out.trans (HB2.out.mono HB0.out.size)
  have HK : Hid (∀ W, Hid (XRes (w.heap.size + 1) w2 W) → (W.cell? ⟨w.heap.size, 0, none⟩ = some (.pointer (some ⟨p, 0, none⟩)) ∧ W.cell? ⟨w.heap.size, 1, none⟩ = some (.int .i64 e)) ∧ Hid (XRes (w.heap.size + 1) w2 W)) := fun W hW => by
    have := xcells_of ((hW.out.1.block _ (by omega) (by omega)).trans g1)
    exact ⟨⟨this.1, this.2.1⟩, hW⟩
  have HQR : Hid (XRes (w.heap.size + 1) w2 w2) := ⟨But.refl _ _, _, _, g2⟩
  have hm1 : 1 ≤ m := by have := HTM.out.2; omega
  have HN : Hid (Calls Tryz.prog 53 #[.pointer (some ⟨w2.heap.size, 0, none⟩), .pointer (some ⟨p, 0, none⟩), .int .u64 T] (w2.alloc (.cells #[.bool false, .slice none 0 0] 63)).drew fun r w' => r = .returned (.pointer (some ⟨w2.heap.size, 0, none⟩)) ∧ Hid (NumAt w' w2.heap.size (sgM v m) (bd + 1) ∧ w'.heap[w.heap.size + 1]? = some (XBox none 0)) ∧ (∀ o, w'.frozen? ⟨w.heap.size + 1, o, none⟩ = false) ∧ w'.cell? ⟨w.heap.size + 1, 0, none⟩ = some (.pointer none) ∧ w'.cell? ⟨w.heap.size + 1, 1, none⟩ = some (.int .i64 0) ∧ Hid (XRes (w.heap.size + 1) w2 w')) := by
    have hx := xr_dr (xr_al HQR (.cells #[.bool false, .slice none 0 0] 63))
    have hbw : Below w.heap.size w (w2.alloc (.cells #[.bool false, .slice none 0 0] 63)).drew := (HBw2.out.alloc HBw2.out.size _).drew
    refine (NRshX w2.heap.size p T m bd v _ (zok_dr (fresh_zok w2)) (H.out.below hbw) (by omega) (by omega) HTM.out.1 hm1).mono ?_
    rintro r w' ⟨rfl, hn, hbt⟩
    have hB' := hx.out.but hbt (Nat.le_refl _) (by omega)
    have hr : w'.heap[w.heap.size + 1]? = some (XBox none 0) := by
      rw [hbt.block (w.heap.size + 1) (by show _ < (w2.alloc _).heap.size; simp; omega) (by omega)]
      show (w2.alloc _).heap[w.heap.size + 1]? = _
      rw [((Below.refl w2.heap.size w2).alloc (Nat.le_refl _) _).block _ (by omega)]
      exact g2
    obtain ⟨f1, f2, f3⟩ := xcells_of hr
    exact ⟨rfl, ⟨hn, hr⟩, f3, f1, f2, hB'⟩
  obtain ⟨N, hN⟩ : ∃ N : Int, Hid ((T : Int) = N) := ⟨_, rfl⟩
  rw [hN.out] at HN
  have hNT := hN.out
  obtain ⟨E, hE⟩ : ∃ E : Int, Hid (e + N = E) := ⟨_, rfl⟩
  have u0 : (T : Int) = N := hNT
  have u1 : IntKind.i64.wrap N = N := by rw [IntWalk.i64_in _ (by omega)]
  have u2 : IntKind.i64.wrap (e + N) = E := by rw [← hE.out, IntWalk.i64_in _ (by omega)]
  have u3 : e + N = E := hE.out
  have u4 : wrap64 E = E := by have := hE.out; unfold wrap64; omega
  have u5 : IntKind.i64.wrap E = E := by have := hE.out; rw [IntWalk.i64_in _ (by omega)]
  have u6 : wrap64 N = N := by unfold wrap64; omega
  obtain ⟨y0, y1⟩ := (HK.out _ HQR).1
  have HTL := hid hTl
  clear g1 g2 hTl hNT hm1 hs0 he1 he2
  go_wp2_with fail
  go_region_held3 (fun W => (W.cell? ⟨w.heap.size, 0, none⟩ = some (.pointer (some ⟨p, 0, none⟩)) ∧ W.cell? ⟨w.heap.size, 1, none⟩ = some (.int .i64 e)) ∧ Hid (XRes (w.heap.size + 1) w2 W))
    ((refine HK.out _ ?_; repeat' (first | with_reducible assumption | with_reducible exact HQR | with_reducible refine xr_al ?_ _ | with_reducible refine xr_dr ?_ | with_reducible refine xr_store ?_ _ _)))
    (first
      | (go_at_call 53; refine HN.out.mono ?_; rintro r w3 ⟨rfl, HF, fz, c0, c1, HB3⟩)
      | fail)
  go_wp2
  exact bodyPost_ret (v := .agg #[.pointer (some ⟨w2.heap.size, 0, none⟩), .int .i64 E]) (by simp [results, Tryz.results25, go_sem, c0, c1]) rfl ⟨w2.heap.size, T, m, by rw [hN.out, hE.out], by omega, HTM.out.1, HTM.out.2, HTL.out, HF.out.1.stored (by omega) HF.out.2 _ _, HBw2.out.trans ((xr_store HB3 _ _).out.1.below HBw2.out.size (by omega))⟩
theorem sgM_odd (v : Int) (m : Nat) (h : m % 2 = 1) : sgM v m % 2 = 1 := by unfold sgM; split <;> omega
theorem sgM_val (v : Int) (T m : Nat) (h : v.natAbs = 2 ^ T * m) : v = sgM v m * 2 ^ T := by
  have h2 : ((v.natAbs : Nat) : Int) = (m : Int) * 2 ^ T := by rw [h, Nat.mul_comm, Int.natCast_mul, Int.natCast_pow]; rfl
  unfold sgM
  split
  · rw [Int.neg_mul, ← h2]; omega
  · rw [← h2]; omega
/-- Odd, by values. -/
theorem xOdd_val (p bd : Nat) (e B z : Int) (w : World) (h : ExV w p e B z bd) (hbd : bd ≤ 400000) (he1 : -1000000 ≤ e) (he2 : e ≤ 1000000) (hT : Tab32 w) (hs : 1 < w.heap.size) :
    Calls Tryz.prog 25 #[.agg #[.pointer (some ⟨p, 0, none⟩), .int .i64 e]] w fun r w' => ∃ q e', r = .returned (.agg #[.pointer (some ⟨q, 0, none⟩), .int .i64 e']) ∧ OddV w' q e' B z (bd + 1) ∧ (e' = 0 ∨ e ≤ e' ∧ e' ≤ e + 32 * bd) ∧ Below w.heap.size w w' := by
  obtain ⟨v, k, f1, f2, f3⟩ := h
  by_cases hv : v = 0
  · subst hv
    refine (xOdd_zero p bd e w f1).mono ?_
    rintro r w' ⟨q, rfl, hq, hn, hb⟩
    exact ⟨q, 0, rfl, Or.inl ⟨by rw [f3, Int.zero_mul], hn.more (by omega), rfl⟩, Or.inl rfl, hb⟩
  · refine (xOdd_some p bd v e w f1 hv hbd he1 he2 hT hs).mono ?_
    rintro r w' ⟨q, T, m, rfl, hq, h1, h2, h3, hn, hb⟩
    refine ⟨q, e + T, rfl, Or.inr ⟨sgM v m, T + k, sgM_odd v m h2, hn, by omega, ?_⟩, Or.inr (by omega), hb⟩
    rw [f3, Int.pow_add, ← Int.mul_assoc, ← sgM_val v T m h1]
end Go.Proofs.YtijadahpddmhjaaGreatDoor

namespace Go.Proofs.YtijadahpddmhjaaGreatDoor
open Go.RowKit Go.IntWalk

theorem bt3 : bits .or .u64 0 9088264048033660928 = 9088264048033660928 := by decide +kernel
set_option maxHeartbeats 1000000 in
theorem ldexp_995 (w : World) : Calls Tryz.prog 74 #[.float .f64 4607182418800017408, .int .i64 995] w fun r w' => r = .returned (.float .f64 9088264048033660928) ∧ w' = w := by
  obtain ⟨g1, g2, g3, g4⟩ := o1
  obtain ⟨b1, b2, b3, _⟩ := bt1
  have b4 := bt3
  have h1 := f64bits
  have h2 := f64fromI3
  have hm := f_mul (x := 4607182418800017408) (y := 9088264048033660928) (z := 9088264048033660928) (by decide +kernel)
  have c0 : wrap64 0 = 0 := by decide +kernel
  have c1 : wrap64 995 = 995 := by decide +kernel
  go_enter Tryz.func74, Tryz.ntmps74
  go_wp2
  go_ret
  exact ⟨rfl, rfl⟩
set_option maxHeartbeats 1000000 in
theorem Ldexp_995 (w : World) : Calls Tryz.prog 45 #[.float .f64 4607182418800017408, .int .i64 995] w fun r w' => r = .returned (.float .f64 9088264048033660928) ∧ w' = w := by
  go_enter Tryz.func45, Tryz.ntmps45
  go_wp2_with fail
  refine (ldexp_995 _).mono ?_
  rintro r w1 ⟨rfl, rfl⟩
  go_wp2
  go_ret
  exact ⟨rfl, rfl⟩
set_option maxHeartbeats 1000000 in
theorem below_995 (x : Nat) (w : World) (hx : x < 18446744073709551616) : Calls Tryz.prog 18 #[.float .f64 x, .int .i64 995] w fun r w' => r = .returned (.bool (decide (x % 9223372036854775808 ≤ 9088264048033660928))) ∧ w' = w := by
  have HF := hid (fun (W : World) => rfin4 x W hx)
  have HA := hid (fun (W : World) => abs_fl x W hx)
  obtain ⟨r, hr⟩ : ∃ r, Hid (x % 9223372036854775808 = r) := ⟨_, rfl⟩
  rw [hr.out] at HF HA ⊢
  by_cases c : r < 9218868437227405312
  · rw [decide_eq_true c] at HF
    have ho := order_mag r 9088264048033660928 (by omega) (by decide)
    by_cases d : r ≤ 9088264048033660928
    · rw [decide_eq_true d]
      rw [if_neg (by omega : ¬ 9088264048033660928 < r)] at ho
      by_cases e : r < 9088264048033660928
      · rw [if_pos e] at ho
        clear hx c d e
        go_enter Tryz.func18, Tryz.ntmps18
        go_wp2_with fail
        refine (HF.out _).mono ?_
        rintro z w1 ⟨rfl, rfl⟩
        go_wp2_with fail
        refine (HA.out _).mono ?_
        rintro z w1 ⟨rfl, rfl⟩
        go_wp2_with fail
        refine (Ldexp_995 _).mono ?_
        rintro z w1 ⟨rfl, rfl⟩
        go_wp2
        go_ret
        exact ⟨rfl, rfl⟩
      · rw [if_neg e] at ho
        clear hx c d e
        go_enter Tryz.func18, Tryz.ntmps18
        go_wp2_with fail
        refine (HF.out _).mono ?_
        rintro z w1 ⟨rfl, rfl⟩
        go_wp2_with fail
        refine (HA.out _).mono ?_
        rintro z w1 ⟨rfl, rfl⟩
        go_wp2_with fail
        refine (Ldexp_995 _).mono ?_
        rintro z w1 ⟨rfl, rfl⟩
        go_wp2
        go_ret
        exact ⟨rfl, rfl⟩
    · rw [decide_eq_false d]
      rw [if_neg (by omega), if_pos (by omega)] at ho
      clear hx c d
      go_enter Tryz.func18, Tryz.ntmps18
      go_wp2_with fail
      refine (HF.out _).mono ?_
      rintro z w1 ⟨rfl, rfl⟩
      go_wp2_with fail
      refine (HA.out _).mono ?_
      rintro z w1 ⟨rfl, rfl⟩
      go_wp2_with fail
      refine (Ldexp_995 _).mono ?_
      rintro z w1 ⟨rfl, rfl⟩
      go_wp2
      go_ret
      exact ⟨rfl, rfl⟩
  · rw [decide_eq_false c] at HF
    rw [decide_eq_false (by omega)]
    clear hx c
    go_enter Tryz.func18, Tryz.ntmps18
    go_wp2_with fail
    refine (HF.out _).mono ?_
    rintro z w1 ⟨rfl, rfl⟩
    go_wp2
    go_ret
    exact ⟨rfl, rfl⟩
theorem odd_under {v z : Int} {k g : Nat} (hv : v % 2 = 1) (h : z = v * 2 ^ k) (hd : ((2 ^ g : Nat) : Int) ∣ z) : g ≤ k := by
  by_cases c : g ≤ k
  · exact c
  · exfalso
    obtain ⟨m, hm⟩ := hd
    obtain ⟨j, rfl⟩ : ∃ j, g = k + (j + 1) := ⟨g - k - 1, by omega⟩
    have hp : ((2 : Int) ^ k) ≠ 0 := Int.pow_ne_zero (by decide)
    have e : (((2 ^ (k + (j + 1)) : Nat)) : Int) = 2 ^ k * (2 ^ j * 2) := by
      rw [Int.natCast_pow, Int.pow_add, Int.pow_succ]; rfl
    rw [h, e, Int.mul_comm v, Int.mul_assoc] at hm
    have := Int.eq_of_mul_eq_mul_left hp hm
    rw [Int.mul_comm (2 ^ j) 2, Int.mul_assoc] at this
    omega
theorem odd_small {v z : Int} {k g : Nat} (hv : v % 2 = 1) (h : z = v * 2 ^ k) (hd : ((2 ^ g : Nat) : Int) ∣ z) (hb : z.natAbs ≤ 67108864 * 2 ^ g) : bitLen v.natAbs ≤ 26 := by
  have hg := odd_under hv h hd
  have h2 : 2 ^ g ≤ 2 ^ k := Nat.pow_le_pow_right (by decide) hg
  have hn : z.natAbs = v.natAbs * 2 ^ k := by
    rw [h, Int.natAbs_mul, Int.natAbs_pow]; rfl
  have hp := Nat.two_pow_pos k
  have h3 : v.natAbs * 2 ^ k ≤ 67108864 * 2 ^ k := by omega
  have h4 := Nat.le_of_mul_le_mul_right h3 hp
  exact bitLen_le _ 26 (by omega)
theorem order_diffE (x y : Nat) (hx : x < 18446744073709551616) (hy : y < 18446744073709551616) (nx : x % 9223372036854775808 < 9218868437227405312) (ny : y % 9223372036854775808 < 9218868437227405312) (h : sv x ≠ sv y) : (FloatKind.f64.format.order x y == some .eq) = false := by
  have := order_diff x y hx hy nx ny h
  rw [bne] at this
  cases e : (FloatKind.f64.format.order x y == some .eq)
  · rfl
  · rw [e] at this; exact absurd this (by decide)
end Go.Proofs.YtijadahpddmhjaaGreatDoor
