
/- The document's Round of an exact number to the nearest. -/
import Derived.Test.YtijadahpddmhjaaGreatDoorP46
namespace Go.Proofs.YtijadahpddmhjaaGreatDoor
open Go.RowKit Go.IntWalk

theorem copy_g (a : Nat) (neg : Bool) (r : Nat) (ha : a < 18446744073709551616) (hr : r < 9223372036854775808) : (bits .or .u64 (bits .andNot .u64 (a : Int) 9223372036854775808) (bits .and .u64 (signN neg r : Int) 9223372036854775808)).toNat = signN neg (a % 9223372036854775808) := by
  have hl : signN neg r < 18446744073709551616 := by unfold signN; split <;> omega
  rw [andNot_sign a ha, and_sign _ hl]
  have hb : a % 9223372036854775808 < 9223372036854775808 := Nat.mod_lt _ (by decide)
  obtain ⟨b, hbb⟩ : ∃ b, a % 9223372036854775808 = b := ⟨_, rfl⟩
  rw [hbb] at hb ⊢
  cases neg
  · rw [signN_false, signN_false, if_neg (by omega)]
    have := u64_or_nat b 0 (by omega) (by omega)
    rw [Nat.or_zero] at this
    have e : ((0 : Nat) : Int) = 0 := rfl
    rw [e] at this ⊢
    rw [this]; omega
  · have e : signN true r = r + 9223372036854775808 := rfl
    rw [e, if_pos (by omega)]
    have := or_sign b hb
    have e2 : ((9223372036854775808 : Nat) : Int) = 9223372036854775808 := rfl
    rw [e2, this]; omega
set_option maxHeartbeats 400000 in
theorem copysign_g (a : Nat) (neg : Bool) (r : Nat) (w : World) (ha : a < 18446744073709551616) (hr : r < 9223372036854775808) :
    Calls Tryz.prog 64 #[.float .f64 a, .float .f64 (signN neg r)] w fun e w' => e = .returned (.float .f64 (signN neg (a % 9223372036854775808))) ∧ w' = w := by
  have h1 := f64bits
  have h2 := f64fromI3
  have H := hid (copy_g a neg r ha hr)
  obtain ⟨x, hx⟩ : ∃ x, Hid (signN neg r = x) := ⟨_, rfl⟩
  obtain ⟨y, hy⟩ : ∃ y, Hid (signN neg (a % 9223372036854775808) = y) := ⟨_, rfl⟩
  rw [hx.out, hy.out] at H
  rw [hx.out, hy.out]
  clear ha hr
  go_enter Tryz.func64, Tryz.ntmps64
  go_wp2
  go_ret
  exact ⟨ret_f H.out, rfl⟩
set_option maxHeartbeats 400000 in
theorem inf_g (neg : Bool) (w : World) : Calls Tryz.prog 65 #[.int .i64 (if neg then -1 else 1)] w fun r w' => r = .returned (.float .f64 (signN neg 9218868437227405312)) ∧ w' = w := by
  have h2 := f64fromI3
  cases neg
  · go_enter Tryz.func65, Tryz.ntmps65
    go_wp2
    go_ret
    exact ⟨rfl, rfl⟩
  · go_enter Tryz.func65, Tryz.ntmps65
    go_wp2
    go_ret
    exact ⟨rfl, rfl⟩
theorem int_zero : floatOfInt .f64 0 = 0 := by decide +kernel
theorem int_one (neg : Bool) : floatOfInt .f64 (if neg then -1 else 1) = signN neg 4607182418800017408 := by cases neg <;> decide +kernel
set_option maxHeartbeats 1000000 in
theorem xnumber_zero (p bd : Nat) (w : World) (hx : NumAt w p 0 bd) :
    Calls Tryz.prog 66 #[.pointer (some ⟨p, 0, none⟩), .int .i64 0] w fun r w' => r = .returned (.float .f64 0) ∧ w' = w := by
  have HI := hid (NInt64 p 0 bd w hx (by decide) (by decide))
  have hcv := int_zero
  clear hx
  go_enter Tryz.func66, Tryz.ntmps66
  go_wp2_with fail
  refine HI.out.mono ?_
  rintro r w1 ⟨rfl, rfl⟩
  go_wp2_with fail
  go_loop [1, 5] (fun e x => e = .int .i64 0 ∧ x = .float .f64 0) (fun _ _ => 0)
  case atStart => exact ⟨rfl, rfl⟩
  case round =>
    obtain ⟨rfl, rfl⟩ := hrel
    go_wp2_with fail
    go_loop [1, 5] (fun e x => e = .int .i64 0 ∧ x = .float .f64 0) (fun _ _ => 0)
    case atStart => exact ⟨rfl, rfl⟩
    case round =>
      obtain ⟨rfl, rfl⟩ := hrel
      go_wp2
      go_ret
      exact ⟨rfl, rfl⟩
/-- The number of n steps of 2^E. -/
theorem xnum_all (q bd : Nat) (n E e : Int) (w : World) (h : OddV w q e E n bd) (hE : -1074 ≤ E) (hE2 : E ≤ 2000) (hn : n.natAbs ≤ 9007199254740992) (hb : E + (bitLen n.natAbs : Int) ≤ 1024) :
    Calls Tryz.prog 66 #[.pointer (some ⟨q, 0, none⟩), .int .i64 e] w fun r w' => ∃ x, r = .returned (.float .f64 x) ∧ Fin64 x (n * ((2 ^ (E + 1074).toNat : Nat) : Int)) ∧ w' = w := by
  rcases h with ⟨h1, h2, h3⟩ | ⟨v, k, h1, h2, h3, h4⟩
  · subst h3
    refine (xnumber_zero q bd w h2).mono ?_
    rintro r w' ⟨rfl, rfl⟩
    exact ⟨0, rfl, ⟨by decide, by decide, by rw [h1, Int.zero_mul]; decide +kernel⟩, rfl⟩
  · have hv0 : v ≠ 0 := by omega
    obtain ⟨u, hu⟩ := Int.eq_ofNat_of_zero_le (show 0 ≤ E + 1074 by omega)
    rw [hu, Int.toNat_natCast]
    have hk := kH_is
    have hp := Nat.two_pow_pos k
    have hab : n.natAbs = v.natAbs * 2 ^ k := by rw [h4, Int.natAbs_mul, Int.natAbs_pow]; rfl
    have hv : v.natAbs ≤ 9007199254740992 := by
      have : v.natAbs * 1 ≤ v.natAbs * 2 ^ k := Nat.mul_le_mul_left _ hp
      omega
    have hbl : bitLen n.natAbs = bitLen v.natAbs + k := by rw [hab]; exact bitLen_mul_pow v.natAbs k (by omega)
    have hval : n * ((2 ^ u : Nat) : Int) = v * ((2 ^ (k + u) : Nat) : Int) := by
      rw [pow_cast_add, ← Int.mul_assoc, h4, show ((2 ^ k : Nat) : Int) = 2 ^ k by rw [Int.natCast_pow]; rfl]
    by_cases c : 0 ≤ e
    · obtain ⟨m, rfl⟩ := Int.eq_ofNat_of_zero_le c
      have hm : kH + m = k + u := by omega
      refine (xnumber_pos q bd m v w h2 hv0 hv (by omega) ?_).mono ?_
      · rw [abs_sc, Nat.mul_assoc, ← Nat.pow_add, hm]
        have h5 := bitLen_hi v.natAbs
        have h6 : v.natAbs * 2 ^ (k + u) < 2 ^ bitLen v.natAbs * 2 ^ (k + u) := Nat.mul_lt_mul_of_pos_right h5 (Nat.two_pow_pos _)
        rw [← Nat.pow_add] at h6
        exact Nat.lt_of_lt_of_le h6 (Nat.pow_le_pow_right (by decide) (by rw [kX_is]; omega))
      · rintro r w' ⟨x, rfl, hx, rfl⟩
        refine ⟨x, rfl, ?_, rfl⟩
        rw [hval, ← hm, pow_cast_add, ← Int.mul_assoc]
        exact hx
    · obtain ⟨m, hm⟩ := Int.eq_ofNat_of_zero_le (show 0 ≤ -e by omega)
      have he : e = -(m : Int) := by omega
      subst he
      have hmk : k + u + m = kH := by omega
      refine xnumber_neg q bd m v _ w h2 hv0 hv (by omega) (by omega) ?_
      rw [hval, Int.mul_assoc, ← pow_cast_add, hmk]
set_option maxRecDepth 4000 in
set_option maxHeartbeats 4000000 in
theorem xRound0 (p bd : Nat) (e B z : Int) (w : World) (h : ExV w p e B z bd) (hbd : bd ≤ 200) (he1 : -10000 ≤ e) (he2 : e ≤ 10000) (hT : Tab32 w) (hs : 1 < w.heap.size) :
    Calls Tryz.prog 40 #[.agg #[.pointer (some ⟨p, 0, none⟩), .int .i64 e], .int .i64 0] w fun r w' => r = .returned (.float .f64 (rndI z B)) ∧ Below w.heap.size w w' := by
  have hal : Below w.heap.size w (w.alloc (XBox (some ⟨p, 0, none⟩) e)) := (Below.refl _ _).alloc (Nat.le_refl _) _
  have HXV := hid (h.below hal)
  have HT : Hid (∀ W, Below w.heap.size w W → Tab32 W ∧ 1 < W.heap.size) := fun W hW => ⟨hT.below hs hW, Nat.lt_of_lt_of_le hs hW.size⟩
  have HG : Hid ((w.alloc (XBox (some ⟨p, 0, none⟩) e)).heap[w.heap.size]? = some (XBox (some ⟨p, 0, none⟩) e)) := new_blk _ _ _ rfl
  have HAL := hid hal
  obtain ⟨W0, hW0⟩ : ∃ V, Hid (w.alloc (XBox (some ⟨p, 0, none⟩) e) = V) := ⟨_, rfl⟩
  rw [hW0.out] at HXV HG HAL
  obtain ⟨x0, x1, _⟩ := xcells_of (show W0.heap[w.heap.size]? = some (.cells #[.pointer (some ⟨p, 0, none⟩), .int .i64 e] 34) from HG.out)
  obtain ⟨v0, k0, n1, n2, n3⟩ := HXV.out
  have HN0 := hid n1
  have hsv : sgnZ v0 = sgnZ z := by rw [n3, xsgn]
  unfold XBox at hW0
  have hW0' := hW0.out
  have HBD := hid hbd
  have HE := hid (And.intro he1 he2)
  clear h hT hs hal n1 n2 n3 hbd he1 he2
  by_cases hz : z = 0
  · have hs0 : sgnZ z = 0 := by rw [hz]; rfl
    have HF : Hid (0 = rndI z B) := by show 0 = rndI z B; rw [hz]; unfold rndI rndM; rw [Int.natAbs_zero, if_pos rfl]; rfl
    go_enter Tryz.func40, Tryz.ntmps40
    go_wp2_with fail
    refine (NSign p v0 bd _ HN0.out).mono ?_
    rw [hsv, hs0]
    rintro r w1 ⟨rfl, rfl⟩
    go_wp2
    go_ret
    exact ⟨ret_f HF.out, HAL.out⟩
  · have HR := hid (fun (W : World) (hW : Below W0.heap.size W0 W) => xround_val p bd e B z W (HXV.out.below hW) HBD.out HE.out.1 HE.out.2 hz (HT.out _ (HAL.out.trans (hW.mono HAL.out.size))).1 (HT.out _ (HAL.out.trans (hW.mono HAL.out.size))).2)
    obtain ⟨N, hN⟩ : ∃ N, Hid (decide (z < 0) = N) := ⟨_, rfl⟩
    have hsg : sgnZ z = if N then -1 else 1 := by
      rw [← hN.out]
      unfold sgnZ
      by_cases c : z < 0
      · rw [decide_eq_true c, if_neg hz, if_pos c]; rfl
      · rw [decide_eq_false c, if_neg hz, if_neg c]; rfl
    have hs0 : ((if N = true then (-1 : Int) else 1) == 0) = false := by cases N <;> rfl
    obtain ⟨sg, hsg2⟩ : ∃ s : Int, Hid ((if N = true then (-1 : Int) else 1) = s) := ⟨_, rfl⟩
    rw [hsg2.out] at hsg hs0
    have HIN := hid (fun (W : World) => inf_g N W)
    have HCS := hid (fun (a : Nat) (W : World) (ha : a < 18446744073709551616) => copysign_g a N 4607182418800017408 W ha (by decide))
    have hone := int_one N
    rw [hsg2.out] at HIN hone
    obtain ⟨on, hon⟩ : ∃ o, Hid (signN N 4607182418800017408 = o) := ⟨_, rfl⟩
    rw [hon.out] at HCS hone
    clear hz
    go_enter Tryz.func40, Tryz.ntmps40
    go_wp2_with fail
    refine (NSign p v0 bd _ HN0.out).mono ?_
    rw [hsv, hsg]
    rintro r w1 ⟨rfl, rfl⟩
    go_wp2_with fail
    refine (HR.out _ (Below.refl _ _)).mono ?_
    rintro r w2 ⟨q, v, k, rfl, hv1, hz1, hbl, hbk, hn2, hb2⟩
    have hv0 : v ≠ 0 := by omega
    obtain ⟨hrnd, hsgn⟩ := rnd_odd_part (B := B) hv0 hz1
    have HNB : Hid ((nearE v (rdE v (B + (k : Nat)) - (B + (k : Nat)))).natAbs ≤ 9007199254740992) := by
      have h1 := rSteps_le 53 (-1022) v.natAbs (B + (k : Nat)) 0 false 53 rfl
      unfold rSteps at h1
      rw [rd_unit] at h1
      have h2 : (nearE v (rdE v (B + (k : Nat)) - (B + (k : Nat)))).natAbs = stepQ v.natAbs (rdE v (B + (k : Nat)) - (B + (k : Nat))) 0 false := by rw [near_steps]; split <;> omega
      show _ ≤ _
      rw [h2]
      exact h1
    have HEB : Hid (-1074 ≤ rdE v (B + (k : Nat)) ∧ rdE v (B + (k : Nat)) ≤ 23000) := by
      unfold rdE
      show _ ∧ _
      omega
    obtain ⟨n, hn⟩ : ∃ n, Hid (nearE v (rdE v (B + (k : Nat)) - (B + (k : Nat))) = n) := ⟨_, rfl⟩
    rw [hn.out] at hrnd HNB hn2
    obtain ⟨E, hE⟩ : ∃ E, Hid (rdE v (B + (k : Nat)) = E) := ⟨_, rfl⟩
    rw [hE.out] at hrnd HEB ⊢
    obtain ⟨b, hb⟩ : ∃ b, Hid (bitLen n.natAbs = b) := ⟨_, rfl⟩
    have HRN : Hid (rndI z B = signN N (if 1024 < E + (b : Int) then 9218868437227405312 else wMag n.natAbs E)) := by
      show rndI z B = _
      unfold rndI
      rw [hN.out, hrnd, hb.out]
    have HN2 := hid hn2
    have HB2 := hid (HAL.out.trans (hb2.mono HAL.out.size))
    have hb54 : (b : Int) ≤ 54 := by
      have := bitLen_le n.natAbs 54 (by have := HNB.out; omega)
      have := hb.out
      omega
    obtain ⟨hE1, hE2⟩ := HEB.out
    have hw1 : IntKind.i64.wrap ((b : Int) + E) = (b : Int) + E := by rw [IntWalk.i64_in _ (by omega)]
    clear hn2 hb2 hrnd hsgn hv0 hv1 hz1 hbl hbk
    go_wp2_with fail
    refine (NBitLen q n (bd + 40001) _ HN2.out (by have := HBD.out; omega)).mono ?_
    rw [hb.out]
    rintro r w3 ⟨rfl, m, rfl⟩
    have HB3 : Hid (Below w.heap.size w (w2.drewN m)) := bl_drewN _ HB2.out
    by_cases c : 1024 < (b : Int) + E
    · have HF : Hid (signN N 9218868437227405312 = rndI z B) := by show _ = _; rw [HRN.out, if_pos (by omega)]
      go_wp2_with fail
      refine (HIN.out _).mono ?_
      rintro r w4 ⟨rfl, rfl⟩
      go_wp2
      go_ret
      exact ⟨ret_f HF.out, HB3.out⟩
    · have HEV : Hid (ExV (w2.drewN m) q E E n (bd + 40001)) := ⟨n, 0, HN2.out.below (bl_drewN _ (Below.refl _ _)), by omega, by rw [Int.pow_zero, Int.mul_one]⟩
      have HTT := hid (HT.out _ HB3.out)
      have HC := hid c
      have HOD := hid (xOdd_val q (bd + 40001) E E n _ HEV.out (by have := HBD.out; omega) (by omega) (by omega) HTT.out.1 HTT.out.2)
      go_wp2_with fail
      refine HOD.out.mono ?_
      rintro r w4 ⟨q4, e4, rfl, ho4, _, hb4⟩
      have hal4 : Below w4.heap.size w4 (w4.alloc (XBox (some ⟨q4, 0, none⟩) e4)) := (Below.refl _ _).alloc (Nat.le_refl _) _
      have HB4 : Hid (Below w.heap.size w (w4.alloc (XBox (some ⟨q4, 0, none⟩) e4))) := by
        have h1 := HB3.out.trans (hb4.mono HB3.out.size)
        exact h1.trans (hal4.mono h1.size)
      have HNU : Hid (Calls Tryz.prog 66 #[.pointer (some ⟨q4, 0, none⟩), .int .i64 e4] (w4.alloc (XBox (some ⟨q4, 0, none⟩) e4)) fun r w' => ∃ x, r = .returned (.float .f64 x) ∧ Fin64 x (n * ((2 ^ (E + 1074).toNat : Nat) : Int)) ∧ w' = w4.alloc (XBox (some ⟨q4, 0, none⟩) e4)) := by
        have ho5 : OddV (w4.alloc (XBox (some ⟨q4, 0, none⟩) e4)) q4 e4 E n (bd + 40001 + 1) := by
          rcases ho4 with ⟨g1, g2, g3⟩ | ⟨v', k', g1, g2, g3, g4⟩
          · exact Or.inl ⟨g1, g2.below hal4, g3⟩
          · exact Or.inr ⟨v', k', g1, g2.below hal4, g3, g4⟩
        exact xnum_all q4 _ n E e4 _ ho5 hE1 (by have := hb.out; have := HC.out; omega) HNB.out (by rw [hb.out]; have := HC.out; omega)
      obtain ⟨V4, hV4⟩ : ∃ V, Hid (w4.alloc (XBox (some ⟨q4, 0, none⟩) e4) = V) := ⟨_, rfl⟩
      have hg4 : V4.heap[w4.heap.size]? = some (XBox (some ⟨q4, 0, none⟩) e4) := by rw [← hV4.out]; exact new_blk _ _ _ rfl
      rw [hV4.out] at HB4 HNU
      obtain ⟨y0, y1, _⟩ := xcells_of (show V4.heap[w4.heap.size]? = some (.cells #[.pointer (some ⟨q4, 0, none⟩), .int .i64 e4] 34) from hg4)
      unfold XBox at hV4
      clear ho4 hb4 hal4 hg4 c
      go_wp2_with fail
      rw [hV4.out]
      refine HNU.out.mono ?_
      rintro r w5 ⟨x, rfl, hx, rfl⟩
      have HXX := hid hx
      have HLT := hid hx.1
      clear hx
      go_wp2_with fail
      refine (HCS.out x _ HLT.out).mono ?_
      rintro r w6 ⟨rfl, rfl⟩
      have HF : Hid (signN N (x % 9223372036854775808) = rndI z B) := by
        obtain ⟨g1, g2, g3⟩ := HXX.out
        obtain ⟨j1, j2⟩ := wMag_val n.natAbs E HNB.out hE1 (by rw [hb.out]; have := HC.out; omega)
        have e1 : nv (x % 9223372036854775808) = (sv x).natAbs := by unfold sv; split <;> omega
        have e2 : x % 9223372036854775808 = wMag n.natAbs E := nv_inj (by rw [e1, g3, abs_sc, j1])
        show _ = _
        rw [HRN.out, if_neg (by have := HC.out; omega), e2]
      go_wp2
      go_ret
      exact ⟨ret_f HF.out, HB4.out⟩
end Go.Proofs.YtijadahpddmhjaaGreatDoor
