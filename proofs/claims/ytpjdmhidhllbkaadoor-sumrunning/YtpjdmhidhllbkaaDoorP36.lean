
/- What dyad's round does where something is cut off, by the nearest, and the answer is a finite number. -/
import Derived.Test.YtpjdmhidhllbkaaDoorP35
namespace Go.Proofs.YtpjdmhidhllbkaaDoor
open Go.RowKit Go.IntWalk

/-- How many steps of 2^n a number comes to, by the nearest. -/
def nearV (m n : Nat) : Nat := m / 2 ^ n + (if restV m n = 2 ∨ restV m n = 1 ∧ m / 2 ^ n % 2 = 1 then 1 else 0)
set_option maxRecDepth 4000 in
set_option maxHeartbeats 4000000 in
theorem round_near (neg : Bool) (L : List Nat) (a : Option Addr) (cap s : Nat) (e u : Int) (w : World) (hm : MagAt w a L) (hd : DigL L) (hc : CanL L) (hmay : DyMay neg L e) (hn : L.length ≤ 3000) (h0 : natL L ≠ 0) (hu : max (e + (bitLen (natL L) : Int) - 1 - 53 + 1) (-1074) = u) (hs : u - e = (s : Int)) (hs1 : 1 ≤ s) (hsb : s ≤ 100000) (hfit : nearV (natL L) s ≤ 9007199254740992) (htop : u + (bitLen (nearV (natL L) s) : Int) - 1 ≤ 1023) (he1 : -3000 ≤ e) (he2 : e ≤ 3000) (hub2 : u ≤ 3000) (hT : Tab w) (hg : 3 < w.heap.size) :
    Calls Tryd.prog 50 #[.agg #[.bool neg, .slice a L.length cap, .int .i64 e], .agg #[.int .i64 53, .int .i64 (-1074), .int .i64 1023], .int .i64 0] w fun r w' => r = .returned (.tuple #[.float .f64 (signN neg (wMag (nearV (natL L) s) u)), .int .i64 0]) ∧ Below w.heap.size w w' := by
  have hbl : bitLen (natL L) ≤ 32 * 3000 := by
    have := natL_lt L hd
    rw [pow32] at this
    have h2 := bitLen_le (natL L) _ this
    omega
  have HG := hid (fun (W : World) => grows_any 0 W (by decide) (by decide))
  rw [show grF 0 = 80 from rfl] at HG
  have hL1 : 1 ≤ L.length := by
    apply Classical.byContradiction
    intro c
    have : L = [] := List.length_eq_zero_iff.1 (by omega)
    rw [this] at h0
    exact h0 rfl
  have HMY : Hid (∀ W, Below w.heap.size w W → Calls Tryd.prog 68 #[.agg #[.bool neg, .slice a L.length cap, .int .i64 e]] W fun r w' => r = .returned (.bool true) ∧ Below W.heap.size W w') := fun W hW => May_yes neg L a cap e W (hm.below hW) hmay
  have HSZ : Hid (∀ W, Below w.heap.size w W → Calls Tryd.prog 69 #[.slice a L.length cap] W fun r w' => r = .returned (.int .i64 (bitLen (natL L))) ∧ w' = W) := fun W hW => size_any L a cap W (hm.below hW) hd hc (by omega)
  have HST : Hid (∀ W, Below w.heap.size w W → Calls Tryd.prog 70 #[.agg #[.bool neg, .slice a L.length cap, .int .i64 e], .int .i64 u, .func (.func 80) #[] #[]] W fun r w' => (∃ x b k, r = .returned (.slice b x k) ∧ Hid (∃ LS, LS.length = x ∧ MagIs (nearV (natL L) s) (L.length + 1) LS b k w')) ∧ Below W.heap.size W w') := fun W hW => by
    refine (steps_near neg L a cap s e u W (hm.below hW) hd hn hL1 hs hs1 (by omega)).mono ?_
    rintro r w' ⟨⟨LS, b, k, rfl, hok⟩, hb⟩
    exact ⟨⟨LS.length, b, k, rfl, ⟨LS, rfl, hok⟩⟩, hb⟩
  have HOF : Hid (∀ W, Below w.heap.size w W → Calls Tryd.prog 73 #[.agg #[.bool neg, .int .u64 (nearV (natL L) s : Nat), .int .i64 u]] W fun r w' => r = .returned (.tuple #[.float .f64 (signN neg (wMag (nearV (natL L) s) u)), .int .i64 0]) ∧ Below W.heap.size W w') := fun W hW => Of_good neg (nearV (natL L) s) u W hfit (by omega) htop (hT.below hg hW) (Nat.lt_of_lt_of_le hg hW.size)
  have hbp := bitLen_pos h0
  obtain ⟨n, hnl⟩ : ∃ n, Hid (L.length = n) := ⟨_, rfl⟩
  obtain ⟨l, hl⟩ : ∃ l, Hid (bitLen (natL L) = l) := ⟨_, rfl⟩
  obtain ⟨M, hM⟩ : ∃ M, Hid (nearV (natL L) s = M) := ⟨_, rfl⟩
  rw [hnl.out] at HMY HSZ HST ⊢
  rw [hl.out] at HSZ hu hbp hbl
  rw [hM.out] at HST HOF hfit htop ⊢
  have HMB := hid (show M < 18446744073709551616 by omega)
  obtain ⟨T, hTT⟩ : ∃ T, Hid (e + (l : Int) - 1 = T) := ⟨_, rfl⟩
  have hT0 : IntKind.i64.wrap (e + (l : Int)) = e + (l : Int) := by rw [IntWalk.i64_in _ (by omega)]
  have hT1 : IntKind.i64.wrap (e + (l : Int) - 1) = T := by have := hTT.out; rw [IntWalk.i64_in _ (by omega)]; exact this
  have hT2 : e + (l : Int) - 1 = T := hTT.out
  have hTb1 : -3000 ≤ T := by have := hTT.out; omega
  have hTb2 : T ≤ 100000 := by have := hTT.out; omega
  rw [hTT.out] at hu
  have hu1 : max (T - 53 + 1) (-1074) = u := hu
  have hub : -1074 ≤ u := by omega
  obtain ⟨K, hK⟩ : ∃ K : Nat, Hid (bitLen M = K) := ⟨_, rfl⟩
  rw [hK.out] at htop
  have hKb : K ≤ 60 := by
    have : M < 2 ^ 54 := by have e54 : (2 : Nat) ^ 54 = 18014398509481984 := by decide
                            omega
    have := bitLen_le M 54 this
    have := hK.out
    omega
  obtain ⟨T2, hT2'⟩ : ∃ T2, Hid (u + (K : Int) - 1 = T2) := ⟨_, rfl⟩
  have hK1 : IntKind.i64.wrap (u + (K : Int)) = u + (K : Int) := by rw [IntWalk.i64_in _ (by omega)]
  have hK3 : u + (K : Int) - 1 = T2 := hT2'.out
  have hK2 : IntKind.i64.wrap (u + (K : Int) - 1) = T2 := by rw [IntWalk.i64_in _ (by omega)]; exact hK3
  have hTw : IntKind.i64.wrap T = T := by rw [IntWalk.i64_in _ (by omega)]
  have hTw2 : IntKind.i64.wrap T2 = T2 := by rw [IntWalk.i64_in _ (by omega)]
  have hgtr : ¬ (1023 : Int) < T2 := by omega
  have HK : Hid (∀ W, Hid (RdFr w neg a n cap e W) → ((W.cell? ⟨w.heap.size, 0, none⟩ = some (.bool neg) ∧ W.cell? ⟨w.heap.size, 1, none⟩ = some (.slice a n cap) ∧ W.cell? ⟨w.heap.size, 2, none⟩ = some (.int .i64 e)) ∧ (W.cell? ⟨w.heap.size + 1, 0, none⟩ = some (.int .i64 53) ∧ W.cell? ⟨w.heap.size + 1, 1, none⟩ = some (.int .i64 (-1074)) ∧ W.cell? ⟨w.heap.size + 1, 2, none⟩ = some (.int .i64 1023))) ∧ Hid (RdFr w neg a n cap e W)) := fun W h => ⟨⟨h.out.all.1, h.out.all.2.1⟩, h⟩
  have HR0 : Hid (RdFr w neg a n cap e (RdW w neg a n cap e)) := Below.refl _ _
  obtain ⟨W0, hW0⟩ : ∃ W0, Hid (RdW w neg a n cap e = W0) := ⟨_, rfl⟩
  have hW0' : RdW w neg a n cap e = W0 := hW0.out
  rw [hW0'] at HR0
  unfold RdW DyBox FmBox at hW0'
  have HU := hid hu
  have HNS := hid (show n ≤ 3000 from by have := hnl.out; omega)
  clear hm hd hc hmay hn h0 hu hs hs1 hsb hfit htop he1 he2 hT hg hbl hL1
  go_enter Tryd.func50, Tryd.ntmps50
  go_wp2_with fail
  refine (HG.out _).mono ?_
  rintro r w1 ⟨rfl, hb1⟩
  have HR1 : Hid (RdFr w neg a n cap e w1) := HR0.out.call hb1
  obtain ⟨⟨⟨p0, p1, p2⟩, ⟨q0, q1, q2⟩⟩, _⟩ := HK.out _ HR1
  clear hb1
  go_wp2_with fail
  refine (HMY.out _ HR1.out.all.2.2.1).mono ?_
  rintro r w2 ⟨rfl, hb2⟩
  have HR2 : Hid (RdFr w neg a n cap e w2) := HR1.out.call hb2
  obtain ⟨⟨⟨r0, r1, r2⟩, ⟨s0, s1, s2⟩⟩, _⟩ := HK.out _ HR2
  clear hb2 p0 p1 p2 q0 q1 q2
  have hfn := func_nil 80
  have HQ0 : Hid (RdFr w neg a n cap e w2.drew) := HR2.out.call (Below.refl _ _).drew
  have HSZ2 : Hid (∀ W, Hid (RdFr w neg a n cap e W) → Calls Tryd.prog 69 #[.slice a n cap] W fun r w' => r = .returned (.int .i64 l) ∧ w' = W) := fun W hW => HSZ.out W hW.out.all.2.2.1
  go_wp2_with fail
  go_region_held3 (fun W => ((W.cell? ⟨w.heap.size, 0, none⟩ = some (.bool neg) ∧ W.cell? ⟨w.heap.size, 1, none⟩ = some (.slice a n cap) ∧ W.cell? ⟨w.heap.size, 2, none⟩ = some (.int .i64 e)) ∧ (W.cell? ⟨w.heap.size + 1, 0, none⟩ = some (.int .i64 53) ∧ W.cell? ⟨w.heap.size + 1, 1, none⟩ = some (.int .i64 (-1074)) ∧ W.cell? ⟨w.heap.size + 1, 2, none⟩ = some (.int .i64 1023))) ∧ Hid (RdFr w neg a n cap e W))
    ((refine HK.out _ ?_; first | assumption | exact HQ0))
    ((go_at_call 69; refine (HSZ2.out _ (And.right (by assumption))).mono ?_; rintro r w3 ⟨rfl, rfl⟩))
  go_wp2_with fail
  refine (HST.out _ (HQ0.out.all.2.2.1)).mono ?_
  rintro r w4 ⟨⟨x, b, k, rfl, HLS⟩, hb4⟩
  have HR4 : Hid (RdFr w neg a n cap e w4) := HQ0.out.call hb4
  obtain ⟨⟨⟨t0, t1, t2⟩, ⟨u0, u1, u2⟩⟩, _⟩ := HK.out _ HR4
  have HK4 : Hid (∀ W, Hid (Below w4.heap.size w4 W) → W.cell? ⟨w.heap.size + 1, 2, none⟩ = some (.int .i64 1023) ∧ Hid (Below w4.heap.size w4 W)) := fun W hW => ⟨(HK.out W (HR4.out.call hW.out)).1.2.2.2, hW⟩
  have HQ4 : Hid (Below w4.heap.size w4 w4.drew) := (Below.refl _ _).drew
  have HS4 : Hid (∀ W, Hid (Below w4.heap.size w4 W) → Calls Tryd.prog 69 #[.slice b x k] W fun r w' => r = .returned (.int .i64 (K : Nat)) ∧ w' = W) := fun W hW => by
    obtain ⟨LS, rfl, h⟩ := HLS.out
    have := size_any LS b k W (h.2.2.1.below hW.out) h.2.2.2.1 h.2.2.2.2.1 (by have := h.2.1; have := HNS.out; omega)
    rw [h.2.2.2.2.2, hK.out] at this
    exact this
  obtain ⟨LS, hLx, hLS⟩ := HLS.out
  obtain ⟨tw1, tw2⟩ := two_words LS M hLS.2.2.2.2.1 hLS.2.2.2.2.2 HMB.out
  have HW1 : Hid (∀ W, Below w4.heap.size w4 W → Calls Tryd.prog 72 #[.slice b x k, .int .i64 1] W fun r w' => r = .returned (.int .u32 (LS.getD 1 0)) ∧ w' = W) := fun W hW => by
    rw [← hLx]
    exact word_any LS b k 1 W (hLS.2.2.1.below hW)
  have HW0 : Hid (∀ W, Below w4.heap.size w4 W → Calls Tryd.prog 72 #[.slice b x k, .int .i64 0] W fun r w' => r = .returned (.int .u32 (LS.getD 0 0)) ∧ w' = W) := fun W hW => by
    rw [← hLx]
    exact word_any LS b k 0 W (hLS.2.2.1.below hW)
  have hg0 := hLS.2.2.2.1.get 0
  have hg1 := hLS.2.2.2.1.get 1
  obtain ⟨x0, hx0⟩ : ∃ x0, Hid (LS.getD 0 0 = x0) := ⟨_, rfl⟩
  obtain ⟨x1, hx1⟩ : ∃ x1, Hid (LS.getD 1 0 = x1) := ⟨_, rfl⟩
  rw [hx0.out] at HW0 hg0 tw2
  rw [hx1.out] at HW1 hg1 tw2
  have hor := or_words2 x0 x1 hg0 hg1
  rw [tw2] at hor
  have hwx0 : IntKind.u64.wrap (x0 : Int) = (x0 : Int) := by rw [IntKind.wrap_u64]; omega
  have hwx1 : IntKind.u64.wrap (x1 : Int) = (x1 : Int) := by rw [IntKind.wrap_u64]; omega
  have hwx2 : IntKind.u64.wrap ((x1 : Int) * 4294967296) = (x1 : Int) * 4294967296 := by rw [IntKind.wrap_u64]; omega
  clear hb4 r0 r1 r2 s0 s1 s2 HLS hLS tw1 tw2 hg0 hg1 HST HSZ HSZ2 HG HMY
  go_wp2_with fail
  go_region_held3 (fun W => W.cell? ⟨w.heap.size + 1, 2, none⟩ = some (.int .i64 1023) ∧ Hid (Below w4.heap.size w4 W))
    ((refine HK4.out _ ?_; first | assumption | exact HQ4))
    ((go_at_call 69; refine (HS4.out _ (And.right (by assumption))).mono ?_; rintro r w5 ⟨rfl, rfl⟩))
  go_wp2_with fail
  refine (HW1.out _ HQ4.out).mono ?_
  rintro r w6 ⟨rfl, rfl⟩
  go_wp2_with fail
  refine (HW0.out _ HQ4.out).mono ?_
  rintro r w6 ⟨rfl, rfl⟩
  go_wp2_with fail
  refine (HOF.out _ (HR4.out.call HQ4.out).all.2.2.1).mono ?_
  rintro r w7 ⟨rfl, hb7⟩
  have HBE : Hid (Below w.heap.size w w7) := (HR4.out.call HQ4.out).all.2.2.1.trans (hb7.mono (HR4.out.call HQ4.out).all.2.2.1.size)
  clear hb7
  go_wp2
  go_ret2
  exact ⟨rfl, HBE.out⟩
end Go.Proofs.YtpjdmhidhllbkaaDoor

namespace Go.Proofs.YtpjdmhidhllbkaaDoor
open Go.RowKit Go.IntWalk

theorem f64fromI' (n : Int) (w : World) : (callFunc 17 #[.int .u64 n]).run Tryd.prog w = .ok (.value (.float .f64 n.toNat)) w := by
  rw [run_callFunc_extern Tryd.func17 (by kernel_rfl) (by kernel_rfl) (by kernel_rfl) (e := Extern.MathFloatBits.float64frombits) (by kernel_rfl)]; rfl
set_option maxHeartbeats 400000 in
theorem inf_one (w : World) :
    Calls Tryd.prog 55 #[.int .i64 1] w fun r w' => r = .returned (.float .f64 9218868437227405312) ∧ w' = w := by
  have h2 := f64fromI'
  go_enter Tryd.func55, Tryd.ntmps55
  go_wp2
  go_ret
  exact ⟨rfl, rfl⟩
theorem len_l (x l : Nat) (w : World) (hx : x < 18446744073709551616) (h : bitLen x = l) :
    Calls Tryd.prog 98 #[.int .u64 x] w fun r w' => r = .returned (.int .i64 l) ∧ w' = w := by
  rw [← h]; exact len_any x w hx
theorem copy_w (a : Nat) (neg : Bool) (r : Nat) (ha : a < 9223372036854775808) (hr : r < 9223372036854775808) : (bits .or .u64 (bits .andNot .u64 (a : Int) 9223372036854775808) (bits .and .u64 (signN neg r : Int) 9223372036854775808)).toNat = signN neg a := by
  have hl : signN neg r < 18446744073709551616 := by unfold signN; split <;> omega
  rw [andNot_sign a (by omega), and_sign _ hl, Nat.mod_eq_of_lt ha]
  cases neg
  · rw [signN_false, signN_false, if_neg (by omega)]
    have := u64_or_nat a 0 (by omega) (by omega)
    rw [Nat.or_zero] at this
    have e : ((0 : Nat) : Int) = 0 := rfl
    rw [e] at this ⊢
    rw [this]; omega
  · have e : signN true r = r + 9223372036854775808 := rfl
    rw [e, if_pos (by omega)]
    have := or_sign a ha
    have e2 : ((9223372036854775808 : Nat) : Int) = 9223372036854775808 := rfl
    rw [e2, this]; omega
set_option maxHeartbeats 400000 in
theorem copysign_any (a : Nat) (neg : Bool) (r : Nat) (w : World) (ha : a < 9223372036854775808) (hr : r < 9223372036854775808) :
    Calls Tryd.prog 45 #[.float .f64 a, .float .f64 (signN neg r)] w fun e w' => e = .returned (.float .f64 (signN neg a)) ∧ w' = w := by
  have h1 := f64bits
  have h2 := f64fromI'
  have H := hid (copy_w a neg r ha hr)
  obtain ⟨x, hx⟩ : ∃ x, Hid (signN neg r = x) := ⟨_, rfl⟩
  rw [hx.out] at H ⊢
  have HA := hid ha
  have HRR := hid hr
  clear ha hr
  go_enter Tryd.func45, Tryd.ntmps45
  go_wp2
  go_ret
  exact ⟨ret_f H.out, rfl⟩

theorem great_word : bitLen 9007199254740991 = 53 := by decide +kernel
set_option maxRecDepth 4000 in
set_option maxHeartbeats 2000000 in
theorem beyond_near (neg : Bool) (w : World) (hT : Tab w) (hg : 3 < w.heap.size) :
    Calls Tryd.prog 71 #[.bool neg, .agg #[.int .i64 53, .int .i64 (-1074), .int .i64 1023], .func (.func 80) #[] #[]] w fun r w' => r = .returned (.float .f64 (signN neg 9218868437227405312)) ∧ Below w.heap.size w w' := by
  have HOF : Hid (∀ W, Below w.heap.size w W → Calls Tryd.prog 73 #[.agg #[.bool neg, .int .u64 9007199254740991, .int .i64 971]] W fun r w' => r = .returned (.tuple #[.float .f64 (signN neg (wMag 9007199254740991 971)), .int .i64 0]) ∧ Below W.heap.size W w') := fun W hW => Of_good neg 9007199254740991 971 W (by decide) (by decide) (by rw [great_word]; decide) (hT.below hg hW) (Nat.lt_of_lt_of_le hg hW.size)
  have HNR : Hid (∀ W, Calls Tryd.prog 80 #[.agg #[.bool neg, .bool true, .int .i64 2]] W fun r w' => r = .returned (.bool true) ∧ Below W.heap.size W w') := fun W => near_any neg true 2 W (by decide)
  obtain ⟨R, hR⟩ : ∃ R, Hid (wMag 9007199254740991 971 = R) := ⟨_, rfl⟩
  have HRL := hid (show R < 9223372036854775808 by rw [← hR.out]; decide +kernel)
  have HCS := hid (fun (W : World) => copysign_any 9218868437227405312 neg R W (by decide) HRL.out)
  rw [hR.out] at HOF
  obtain ⟨X, hX⟩ : ∃ X, Hid (signN neg R = X) := ⟨_, rfl⟩
  obtain ⟨Y, hY⟩ : ∃ Y, Hid (signN neg 9218868437227405312 = Y) := ⟨_, rfl⟩
  rw [hX.out] at HOF HCS
  rw [hY.out] at HCS ⊢
  obtain ⟨W0, hW0⟩ : ∃ W0, Hid (w.alloc FmBox = W0) := ⟨_, rfl⟩
  have hW0' : w.alloc FmBox = W0 := hW0.out
  have HB0 : Hid (Below w.heap.size w W0) := by rw [← hW0.out]; exact (Below.refl _ _).alloc (Nat.le_refl _) _
  have hbx : W0.heap[w.heap.size]? = some FmBox := by rw [← hW0.out]; exact new_blk _ _ _ rfl
  have hlt : w.heap.size < W0.heap.size := (Array.getElem?_eq_some_iff.1 hbx).1
  have HK : Hid (∀ W, Hid (Below W0.heap.size W0 W) → (W.cell? ⟨w.heap.size, 0, none⟩ = some (.int .i64 53) ∧ W.cell? ⟨w.heap.size, 2, none⟩ = some (.int .i64 1023)) ∧ Hid (Below W0.heap.size W0 W)) := fun W hW => by
    have hb : W.heap[w.heap.size]? = some FmBox := by rw [hW.out.block _ hlt]; exact hbx
    exact ⟨⟨by simp [World.cell?, hb, FmBox], by simp [World.cell?, hb, FmBox]⟩, hW⟩
  have HQ0 : Hid (Below W0.heap.size W0 W0.drew) := (Below.refl _ _).drew
  have HOF2 : Hid (∀ W, Hid (Below W0.heap.size W0 W) → Calls Tryd.prog 73 #[.agg #[.bool neg, .int .u64 9007199254740991, .int .i64 971]] W fun r w' => r = .returned (.tuple #[.float .f64 X, .int .i64 0]) ∧ Hid (Below W0.heap.size W0 w')) := fun W hW => by
    refine (HOF.out W (HB0.out.trans (hW.out.mono HB0.out.size))).mono ?_
    rintro r w' ⟨rfl, hb⟩
    exact ⟨rfl, hW.out.trans (hb.mono hW.out.size)⟩
  unfold FmBox at hW0'
  clear hT hg hbx HOF
  go_enter Tryd.func71, Tryd.ntmps71
  go_wp2_with fail
  go_region_held3 (fun W => (W.cell? ⟨w.heap.size, 0, none⟩ = some (.int .i64 53) ∧ W.cell? ⟨w.heap.size, 2, none⟩ = some (.int .i64 1023)) ∧ Hid (Below W0.heap.size W0 W))
    ((refine HK.out _ ?_; first | assumption | exact HQ0))
    ((go_at_call 73; refine (HOF2.out _ (And.right (by assumption))).mono ?_; rintro r w1 ⟨rfl, HB1⟩))
  all_goals
    go_wp2_with fail
    refine (HNR.out _).mono ?_
    rintro r w2 ⟨rfl, hb2⟩
    have HB2 : Hid (Below W0.heap.size W0 w2) := HB1.out.trans (hb2.mono HB1.out.size)
    clear hb2
    go_wp2_with fail
    refine (inf_one _).mono ?_
    rintro r w3 ⟨rfl, rfl⟩
    go_wp2_with fail
    refine (HCS.out _).mono ?_
    rintro r w4 ⟨rfl, rfl⟩
    go_wp2
    go_ret
    exact ⟨rfl, HB0.out.trans (HB2.out.mono HB0.out.size)⟩
end Go.Proofs.YtpjdmhidhllbkaaDoor
