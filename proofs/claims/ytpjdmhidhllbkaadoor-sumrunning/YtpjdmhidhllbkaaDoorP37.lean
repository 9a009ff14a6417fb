
/- What dyad's round does beyond the greatest number, by the nearest; and of 0. -/
import Derived.Test.YtpjdmhidhllbkaaDoorP36
namespace Go.Proofs.YtpjdmhidhllbkaaDoor
open Go.RowKit Go.IntWalk

/-- stepsOf by the nearest comes to M. -/
def StepsTo (w : World) (neg : Bool) (a : Option Addr) (n cap : Nat) (e u : Int) (M bd : Nat) : Prop := ∀ W, Below w.heap.size w W → Calls Tryd.prog 70 #[.agg #[.bool neg, .slice a n cap, .int .i64 e], .int .i64 u, .func (.func 80) #[] #[]] W fun r w' => (∃ x b k, r = .returned (.slice b x k) ∧ Hid (∃ LS, LS.length = x ∧ MagIs M bd LS b k w')) ∧ Below W.heap.size W w'
theorem steps_to_near (neg : Bool) (L : List Nat) (a : Option Addr) (cap s : Nat) (e u : Int) (w : World) (hm : MagAt w a L) (hd : DigL L) (hn : L.length ≤ 3000) (hl0 : 1 ≤ L.length) (hu : u - e = (s : Int)) (h1 : 1 ≤ s) (h2 : s ≤ 200000) : StepsTo w neg a L.length cap e u (nearV (natL L) s) (L.length + 1) := fun W hW => by
  refine (steps_near neg L a cap s e u W (hm.below hW) hd hn hl0 hu h1 h2).mono ?_
  rintro r w' ⟨⟨LS, b, k, rfl, hok⟩, hb⟩
  exact ⟨⟨LS.length, b, k, rfl, ⟨LS, rfl, hok⟩⟩, hb⟩
theorem steps_to_left (neg : Bool) (L : List Nat) (a : Option Addr) (cap s : Nat) (e u : Int) (w : World) (hm : MagAt w a L) (hd : DigL L) (hn : L.length ≤ 3000) (hu : e - u = (s : Int)) (hs : s ≤ 100000) : StepsTo w neg a L.length cap e u (natL L * 2 ^ s) (L.length + s / 32 + 1) := fun W hW => by
  refine (steps_left neg L a cap s e u _ W (hm.below hW) hd hn hu hs).mono ?_
  rintro r w' ⟨⟨LS, b, k, rfl, hok⟩, hb⟩
  exact ⟨⟨LS.length, b, k, rfl, ⟨LS, rfl, hok⟩⟩, hb⟩
set_option maxRecDepth 4000 in
set_option maxHeartbeats 4000000 in
theorem round_far (neg : Bool) (L : List Nat) (a : Option Addr) (cap M bd : Nat) (e u : Int) (w : World) (hm : MagAt w a L) (hd : DigL L) (hc : CanL L) (hmay : DyMay neg L e) (hn : L.length ≤ 3000) (hu : max (e + (bitLen (natL L) : Int) - 1 - 53 + 1) (-1074) = u) (hst : StepsTo w neg a L.length cap e u M bd) (hbd : bd ≤ 100000) (hKb : bitLen M ≤ 100000) (htop : 1023 < u + (bitLen M : Int) - 1) (he1 : -3000 ≤ e) (he2 : e ≤ 3000) (hub2 : u ≤ 3000) (hT : Tab w) (hg : 3 < w.heap.size) :
    Calls Tryd.prog 50 #[.agg #[.bool neg, .slice a L.length cap, .int .i64 e], .agg #[.int .i64 53, .int .i64 (-1074), .int .i64 1023], .int .i64 0] w fun r w' => r = .returned (.tuple #[.float .f64 (signN neg 9218868437227405312), .int .i64 0]) ∧ Below w.heap.size w w' := by
  have hbl : bitLen (natL L) ≤ 32 * 3000 := by
    have := natL_lt L hd
    rw [pow32] at this
    have h2 := bitLen_le (natL L) _ this
    omega
  have HG := hid (fun (W : World) => grows_any 0 W (by decide) (by decide))
  rw [show grF 0 = 80 from rfl] at HG
  have HMY : Hid (∀ W, Below w.heap.size w W → Calls Tryd.prog 68 #[.agg #[.bool neg, .slice a L.length cap, .int .i64 e]] W fun r w' => r = .returned (.bool true) ∧ Below W.heap.size W w') := fun W hW => May_yes neg L a cap e W (hm.below hW) hmay
  have HSZ : Hid (∀ W, Below w.heap.size w W → Calls Tryd.prog 69 #[.slice a L.length cap] W fun r w' => r = .returned (.int .i64 (bitLen (natL L))) ∧ w' = W) := fun W hW => size_any L a cap W (hm.below hW) hd hc (by omega)
  have HST := hid hst
  have HBY : Hid (∀ W, Below w.heap.size w W → Calls Tryd.prog 71 #[.bool neg, .agg #[.int .i64 53, .int .i64 (-1074), .int .i64 1023], .func (.func 80) #[] #[]] W fun r w' => r = .returned (.float .f64 (signN neg 9218868437227405312)) ∧ Below W.heap.size W w') := fun W hW => beyond_near neg W (hT.below hg hW) (Nat.lt_of_lt_of_le hg hW.size)
  obtain ⟨Y, hY⟩ : ∃ Y, Hid (signN neg 9218868437227405312 = Y) := ⟨_, rfl⟩
  rw [hY.out] at HBY ⊢
  obtain ⟨n, hnl⟩ : ∃ n, Hid (L.length = n) := ⟨_, rfl⟩
  obtain ⟨l, hl⟩ : ∃ l, Hid (bitLen (natL L) = l) := ⟨_, rfl⟩
  rw [hnl.out] at HMY HSZ HST ⊢
  rw [hl.out] at HSZ hu hbl
  obtain ⟨T, hTT⟩ : ∃ T, Hid (e + (l : Int) - 1 = T) := ⟨_, rfl⟩
  have hT0 : IntKind.i64.wrap (e + (l : Int)) = e + (l : Int) := by rw [IntWalk.i64_in _ (by omega)]
  have hT1 : IntKind.i64.wrap (e + (l : Int) - 1) = T := by have := hTT.out; rw [IntWalk.i64_in _ (by omega)]; exact this
  have hT2 : e + (l : Int) - 1 = T := hTT.out
  have hTb1 : -4000 ≤ T := by have := hTT.out; omega
  have hTb2 : T ≤ 100000 := by have := hTT.out; omega
  rw [hTT.out] at hu
  have hu1 : max (T - 53 + 1) (-1074) = u := hu
  have hub : -1074 ≤ u := by omega
  obtain ⟨K, hK⟩ : ∃ K : Nat, Hid (bitLen M = K) := ⟨_, rfl⟩
  rw [hK.out] at htop hKb
  obtain ⟨T2, hT2'⟩ : ∃ T2, Hid (u + (K : Int) - 1 = T2) := ⟨_, rfl⟩
  have hK1 : IntKind.i64.wrap (u + (K : Int)) = u + (K : Int) := by rw [IntWalk.i64_in _ (by omega)]
  have hK3 : u + (K : Int) - 1 = T2 := hT2'.out
  have hK2 : IntKind.i64.wrap (u + (K : Int) - 1) = T2 := by rw [IntWalk.i64_in _ (by omega)]; exact hK3
  have hTw : IntKind.i64.wrap T = T := by rw [IntWalk.i64_in _ (by omega)]
  have hTw2 : IntKind.i64.wrap T2 = T2 := by rw [IntWalk.i64_in _ (by omega)]
  have hgtr : (1023 : Int) < T2 := by omega
  have HK : Hid (∀ W, Hid (RdFr w neg a n cap e W) → ((W.cell? ⟨w.heap.size, 0, none⟩ = some (.bool neg) ∧ W.cell? ⟨w.heap.size, 1, none⟩ = some (.slice a n cap) ∧ W.cell? ⟨w.heap.size, 2, none⟩ = some (.int .i64 e)) ∧ (W.cell? ⟨w.heap.size + 1, 0, none⟩ = some (.int .i64 53) ∧ W.cell? ⟨w.heap.size + 1, 1, none⟩ = some (.int .i64 (-1074)) ∧ W.cell? ⟨w.heap.size + 1, 2, none⟩ = some (.int .i64 1023))) ∧ Hid (RdFr w neg a n cap e W)) := fun W h => ⟨⟨h.out.all.1, h.out.all.2.1⟩, h⟩
  have HR0 : Hid (RdFr w neg a n cap e (RdW w neg a n cap e)) := Below.refl _ _
  obtain ⟨W0, hW0⟩ : ∃ W0, Hid (RdW w neg a n cap e = W0) := ⟨_, rfl⟩
  have hW0' : RdW w neg a n cap e = W0 := hW0.out
  rw [hW0'] at HR0
  unfold RdW DyBox FmBox at hW0'
  have HU := hid hu
  have HNS := hid (show bd ≤ 100000 from hbd)
  clear hm hd hc hmay hn hu hst hbd htop he1 he2 hT hg hbl
  go_enter Tryd.func50, Tryd.ntmps50
  go_wp2_with fail
  refine (HG.out _).mono ?_
  rintro r w1 ⟨rfl, hb1⟩
  have HR1 : Hid (RdFr w neg a n cap e w1) := HR0.out.call hb1
  obtain ⟨⟨⟨p0, p1, p2⟩, ⟨q0, q1, q2⟩⟩, _⟩ := HK.out _ HR1
  clear hb1
  go_wp2_with fail
  refine (HMY.out _ HR1.out.all.2.2.1).mono ?_
  rintro r w2 ⟨rfl, hb2⟩
  have HR2 : Hid (RdFr w neg a n cap e w2) := HR1.out.call hb2
  obtain ⟨⟨⟨r0, r1, r2⟩, ⟨s0, s1, s2⟩⟩, _⟩ := HK.out _ HR2
  clear hb2 p0 p1 p2 q0 q1 q2
  have hfn := func_nil 80
  have HQ0 : Hid (RdFr w neg a n cap e w2.drew) := HR2.out.call (Below.refl _ _).drew
  have HSZ2 : Hid (∀ W, Hid (RdFr w neg a n cap e W) → Calls Tryd.prog 69 #[.slice a n cap] W fun r w' => r = .returned (.int .i64 l) ∧ w' = W) := fun W hW => HSZ.out W hW.out.all.2.2.1
  go_wp2_with fail
  go_region_held3 (fun W => ((W.cell? ⟨w.heap.size, 0, none⟩ = some (.bool neg) ∧ W.cell? ⟨w.heap.size, 1, none⟩ = some (.slice a n cap) ∧ W.cell? ⟨w.heap.size, 2, none⟩ = some (.int .i64 e)) ∧ (W.cell? ⟨w.heap.size + 1, 0, none⟩ = some (.int .i64 53) ∧ W.cell? ⟨w.heap.size + 1, 1, none⟩ = some (.int .i64 (-1074)) ∧ W.cell? ⟨w.heap.size + 1, 2, none⟩ = some (.int .i64 1023))) ∧ Hid (RdFr w neg a n cap e W))
    ((refine HK.out _ ?_; first | assumption | exact HQ0))
    ((go_at_call 69; refine (HSZ2.out _ (And.right (by assumption))).mono ?_; rintro r w3 ⟨rfl, rfl⟩))
  go_wp2_with fail
  refine (HST.out _ (HQ0.out.all.2.2.1)).mono ?_
  rintro r w4 ⟨⟨x, b, k, rfl, HLS⟩, hb4⟩
  have HR4 : Hid (RdFr w neg a n cap e w4) := HQ0.out.call hb4
  obtain ⟨⟨⟨t0, t1, t2⟩, ⟨u0, u1, u2⟩⟩, _⟩ := HK.out _ HR4
  have HK4 : Hid (∀ W, Hid (Below w4.heap.size w4 W) → W.cell? ⟨w.heap.size + 1, 2, none⟩ = some (.int .i64 1023) ∧ Hid (Below w4.heap.size w4 W)) := fun W hW => ⟨(HK.out W (HR4.out.call hW.out)).1.2.2.2, hW⟩
  have HQ4 : Hid (Below w4.heap.size w4 w4.drew) := (Below.refl _ _).drew
  have HS4 : Hid (∀ W, Hid (Below w4.heap.size w4 W) → Calls Tryd.prog 69 #[.slice b x k] W fun r w' => r = .returned (.int .i64 (K : Nat)) ∧ w' = W) := fun W hW => by
    obtain ⟨LS, rfl, h⟩ := HLS.out
    have := size_any LS b k W (h.2.2.1.below hW.out) h.2.2.2.1 h.2.2.2.2.1 (by have := h.2.1; have := HNS.out; omega)
    rw [h.2.2.2.2.2, hK.out] at this
    exact this
  clear hb4 r0 r1 r2 s0 s1 s2 HLS HST HSZ HSZ2 HG HMY
  go_wp2_with fail
  go_region_held3 (fun W => W.cell? ⟨w.heap.size + 1, 2, none⟩ = some (.int .i64 1023) ∧ Hid (Below w4.heap.size w4 W))
    ((refine HK4.out _ ?_; first | assumption | exact HQ4))
    ((go_at_call 69; refine (HS4.out _ (And.right (by assumption))).mono ?_; rintro r w5 ⟨rfl, rfl⟩))
  obtain ⟨⟨⟨y0, y1, y2⟩, ⟨z0, z1, z2⟩⟩, _⟩ := HK.out _ (hid (HR4.out.call HQ4.out))
  clear t0 t1 t2 u0 u1 u2
  go_wp2_with fail
  refine (HBY.out _ (HR4.out.call HQ4.out).all.2.2.1).mono ?_
  rintro r w7 ⟨rfl, hb7⟩
  have HBE : Hid (Below w.heap.size w w7) := (HR4.out.call HQ4.out).all.2.2.1.trans (hb7.mono (HR4.out.call HQ4.out).all.2.2.1.size)
  clear hb7
  go_wp2
  go_ret2
  exact ⟨rfl, HBE.out⟩
set_option maxRecDepth 4000 in
set_option maxHeartbeats 4000000 in
theorem round_fin (neg : Bool) (L : List Nat) (a : Option Addr) (cap M bd : Nat) (e u : Int) (w : World) (hm : MagAt w a L) (hd : DigL L) (hc : CanL L) (hmay : DyMay neg L e) (hn : L.length ≤ 3000) (hu : max (e + (bitLen (natL L) : Int) - 1 - 53 + 1) (-1074) = u) (hst : StepsTo w neg a L.length cap e u M bd) (hbd : bd ≤ 100000) (hfit : M ≤ 9007199254740992) (htop : u + (bitLen M : Int) - 1 ≤ 1023) (he1 : -3000 ≤ e) (he2 : e ≤ 3000) (hub2 : u ≤ 3000) (hT : Tab w) (hg : 3 < w.heap.size) :
    Calls Tryd.prog 50 #[.agg #[.bool neg, .slice a L.length cap, .int .i64 e], .agg #[.int .i64 53, .int .i64 (-1074), .int .i64 1023], .int .i64 0] w fun r w' => r = .returned (.tuple #[.float .f64 (signN neg (wMag M u)), .int .i64 0]) ∧ Below w.heap.size w w' := by
  have hbl : bitLen (natL L) ≤ 32 * 3000 := by
    have := natL_lt L hd
    rw [pow32] at this
    have h2 := bitLen_le (natL L) _ this
    omega
  have HG := hid (fun (W : World) => grows_any 0 W (by decide) (by decide))
  rw [show grF 0 = 80 from rfl] at HG
  have HMY : Hid (∀ W, Below w.heap.size w W → Calls Tryd.prog 68 #[.agg #[.bool neg, .slice a L.length cap, .int .i64 e]] W fun r w' => r = .returned (.bool true) ∧ Below W.heap.size W w') := fun W hW => May_yes neg L a cap e W (hm.below hW) hmay
  have HSZ : Hid (∀ W, Below w.heap.size w W → Calls Tryd.prog 69 #[.slice a L.length cap] W fun r w' => r = .returned (.int .i64 (bitLen (natL L))) ∧ w' = W) := fun W hW => size_any L a cap W (hm.below hW) hd hc (by omega)
  have HST := hid hst
  have HOF : Hid (∀ W, Below w.heap.size w W → Calls Tryd.prog 73 #[.agg #[.bool neg, .int .u64 (M : Nat), .int .i64 u]] W fun r w' => r = .returned (.tuple #[.float .f64 (signN neg (wMag M u)), .int .i64 0]) ∧ Below W.heap.size W w') := fun W hW => Of_good neg M u W hfit (by omega) htop (hT.below hg hW) (Nat.lt_of_lt_of_le hg hW.size)
  obtain ⟨n, hnl⟩ : ∃ n, Hid (L.length = n) := ⟨_, rfl⟩
  obtain ⟨l, hl⟩ : ∃ l, Hid (bitLen (natL L) = l) := ⟨_, rfl⟩
  rw [hnl.out] at HMY HSZ HST ⊢
  rw [hl.out] at HSZ hu hbl
  have HMB := hid (show M < 18446744073709551616 by omega)
  obtain ⟨T, hTT⟩ : ∃ T, Hid (e + (l : Int) - 1 = T) := ⟨_, rfl⟩
  have hT0 : IntKind.i64.wrap (e + (l : Int)) = e + (l : Int) := by rw [IntWalk.i64_in _ (by omega)]
  have hT1 : IntKind.i64.wrap (e + (l : Int) - 1) = T := by have := hTT.out; rw [IntWalk.i64_in _ (by omega)]; exact this
  have hT2 : e + (l : Int) - 1 = T := hTT.out
  have hTb1 : -4000 ≤ T := by have := hTT.out; omega
  have hTb2 : T ≤ 100000 := by have := hTT.out; omega
  rw [hTT.out] at hu
  have hu1 : max (T - 53 + 1) (-1074) = u := hu
  have hub : -1074 ≤ u := by omega
  obtain ⟨K, hK⟩ : ∃ K : Nat, Hid (bitLen M = K) := ⟨_, rfl⟩
  rw [hK.out] at htop
  have hKb : K ≤ 60 := by
    have : M < 2 ^ 54 := by have e54 : (2 : Nat) ^ 54 = 18014398509481984 := by decide
                            omega
    have := bitLen_le M 54 this
    have := hK.out
    omega
  obtain ⟨T2, hT2'⟩ : ∃ T2, Hid (u + (K : Int) - 1 = T2) := ⟨_, rfl⟩
  have hK1 : IntKind.i64.wrap (u + (K : Int)) = u + (K : Int) := by rw [IntWalk.i64_in _ (by omega)]
  have hK3 : u + (K : Int) - 1 = T2 := hT2'.out
  have hK2 : IntKind.i64.wrap (u + (K : Int) - 1) = T2 := by rw [IntWalk.i64_in _ (by omega)]; exact hK3
  have hTw : IntKind.i64.wrap T = T := by rw [IntWalk.i64_in _ (by omega)]
  have hTw2 : IntKind.i64.wrap T2 = T2 := by rw [IntWalk.i64_in _ (by omega)]
  have hgtr : ¬ (1023 : Int) < T2 := by omega
  have HK : Hid (∀ W, Hid (RdFr w neg a n cap e W) → ((W.cell? ⟨w.heap.size, 0, none⟩ = some (.bool neg) ∧ W.cell? ⟨w.heap.size, 1, none⟩ = some (.slice a n cap) ∧ W.cell? ⟨w.heap.size, 2, none⟩ = some (.int .i64 e)) ∧ (W.cell? ⟨w.heap.size + 1, 0, none⟩ = some (.int .i64 53) ∧ W.cell? ⟨w.heap.size + 1, 1, none⟩ = some (.int .i64 (-1074)) ∧ W.cell? ⟨w.heap.size + 1, 2, none⟩ = some (.int .i64 1023))) ∧ Hid (RdFr w neg a n cap e W)) := fun W h => ⟨⟨h.out.all.1, h.out.all.2.1⟩, h⟩
  have HR0 : Hid (RdFr w neg a n cap e (RdW w neg a n cap e)) := Below.refl _ _
  obtain ⟨W0, hW0⟩ : ∃ W0, Hid (RdW w neg a n cap e = W0) := ⟨_, rfl⟩
  have hW0' : RdW w neg a n cap e = W0 := hW0.out
  rw [hW0'] at HR0
  unfold RdW DyBox FmBox at hW0'
  have HU := hid hu
  have HNS := hid (show bd ≤ 100000 from hbd)
  clear hm hd hc hmay hn hu hst hbd hfit htop he1 he2 hT hg hbl
  go_enter Tryd.func50, Tryd.ntmps50
  go_wp2_with fail
  refine (HG.out _).mono ?_
  rintro r w1 ⟨rfl, hb1⟩
  have HR1 : Hid (RdFr w neg a n cap e w1) := HR0.out.call hb1
  obtain ⟨⟨⟨p0, p1, p2⟩, ⟨q0, q1, q2⟩⟩, _⟩ := HK.out _ HR1
  clear hb1
  go_wp2_with fail
  refine (HMY.out _ HR1.out.all.2.2.1).mono ?_
  rintro r w2 ⟨rfl, hb2⟩
  have HR2 : Hid (RdFr w neg a n cap e w2) := HR1.out.call hb2
  obtain ⟨⟨⟨r0, r1, r2⟩, ⟨s0, s1, s2⟩⟩, _⟩ := HK.out _ HR2
  clear hb2 p0 p1 p2 q0 q1 q2
  have hfn := func_nil 80
  have HQ0 : Hid (RdFr w neg a n cap e w2.drew) := HR2.out.call (Below.refl _ _).drew
  have HSZ2 : Hid (∀ W, Hid (RdFr w neg a n cap e W) → Calls Tryd.prog 69 #[.slice a n cap] W fun r w' => r = .returned (.int .i64 l) ∧ w' = W) := fun W hW => HSZ.out W hW.out.all.2.2.1
  go_wp2_with fail
  go_region_held3 (fun W => ((W.cell? ⟨w.heap.size, 0, none⟩ = some (.bool neg) ∧ W.cell? ⟨w.heap.size, 1, none⟩ = some (.slice a n cap) ∧ W.cell? ⟨w.heap.size, 2, none⟩ = some (.int .i64 e)) ∧ (W.cell? ⟨w.heap.size + 1, 0, none⟩ = some (.int .i64 53) ∧ W.cell? ⟨w.heap.size + 1, 1, none⟩ = some (.int .i64 (-1074)) ∧ W.cell? ⟨w.heap.size + 1, 2, none⟩ = some (.int .i64 1023))) ∧ Hid (RdFr w neg a n cap e W))
    ((refine HK.out _ ?_; first | assumption | exact HQ0))
    ((go_at_call 69; refine (HSZ2.out _ (And.right (by assumption))).mono ?_; rintro r w3 ⟨rfl, rfl⟩))
  go_wp2_with fail
  refine (HST.out _ (HQ0.out.all.2.2.1)).mono ?_
  rintro r w4 ⟨⟨x, b, k, rfl, HLS⟩, hb4⟩
  have HR4 : Hid (RdFr w neg a n cap e w4) := HQ0.out.call hb4
  obtain ⟨⟨⟨t0, t1, t2⟩, ⟨u0, u1, u2⟩⟩, _⟩ := HK.out _ HR4
  have HK4 : Hid (∀ W, Hid (Below w4.heap.size w4 W) → W.cell? ⟨w.heap.size + 1, 2, none⟩ = some (.int .i64 1023) ∧ Hid (Below w4.heap.size w4 W)) := fun W hW => ⟨(HK.out W (HR4.out.call hW.out)).1.2.2.2, hW⟩
  have HQ4 : Hid (Below w4.heap.size w4 w4.drew) := (Below.refl _ _).drew
  have HS4 : Hid (∀ W, Hid (Below w4.heap.size w4 W) → Calls Tryd.prog 69 #[.slice b x k] W fun r w' => r = .returned (.int .i64 (K : Nat)) ∧ w' = W) := fun W hW => by
    obtain ⟨LS, rfl, h⟩ := HLS.out
    have := size_any LS b k W (h.2.2.1.below hW.out) h.2.2.2.1 h.2.2.2.2.1 (by have := h.2.1; have := HNS.out; omega)
    rw [h.2.2.2.2.2, hK.out] at this
    exact this
  obtain ⟨LS, hLx, hLS⟩ := HLS.out
  obtain ⟨tw1, tw2⟩ := two_words LS M hLS.2.2.2.2.1 hLS.2.2.2.2.2 HMB.out
  have HW1 : Hid (∀ W, Below w4.heap.size w4 W → Calls Tryd.prog 72 #[.slice b x k, .int .i64 1] W fun r w' => r = .returned (.int .u32 (LS.getD 1 0)) ∧ w' = W) := fun W hW => by
    rw [← hLx]
    exact word_any LS b k 1 W (hLS.2.2.1.below hW)
  have HW0 : Hid (∀ W, Below w4.heap.size w4 W → Calls Tryd.prog 72 #[.slice b x k, .int .i64 0] W fun r w' => r = .returned (.int .u32 (LS.getD 0 0)) ∧ w' = W) := fun W hW => by
    rw [← hLx]
    exact word_any LS b k 0 W (hLS.2.2.1.below hW)
  have hg0 := hLS.2.2.2.1.get 0
  have hg1 := hLS.2.2.2.1.get 1
  obtain ⟨x0, hx0⟩ : ∃ x0, Hid (LS.getD 0 0 = x0) := ⟨_, rfl⟩
  obtain ⟨x1, hx1⟩ : ∃ x1, Hid (LS.getD 1 0 = x1) := ⟨_, rfl⟩
  rw [hx0.out] at HW0 hg0 tw2
  rw [hx1.out] at HW1 hg1 tw2
  have hor := or_words2 x0 x1 hg0 hg1
  rw [tw2] at hor
  have hwx0 : IntKind.u64.wrap (x0 : Int) = (x0 : Int) := by rw [IntKind.wrap_u64]; omega
  have hwx1 : IntKind.u64.wrap (x1 : Int) = (x1 : Int) := by rw [IntKind.wrap_u64]; omega
  have hwx2 : IntKind.u64.wrap ((x1 : Int) * 4294967296) = (x1 : Int) * 4294967296 := by rw [IntKind.wrap_u64]; omega
  clear hb4 r0 r1 r2 s0 s1 s2 HLS hLS tw1 tw2 hg0 hg1 HST HSZ HSZ2 HG HMY
  go_wp2_with fail
  go_region_held3 (fun W => W.cell? ⟨w.heap.size + 1, 2, none⟩ = some (.int .i64 1023) ∧ Hid (Below w4.heap.size w4 W))
    ((refine HK4.out _ ?_; first | assumption | exact HQ4))
    ((go_at_call 69; refine (HS4.out _ (And.right (by assumption))).mono ?_; rintro r w5 ⟨rfl, rfl⟩))
  go_wp2_with fail
  refine (HW1.out _ HQ4.out).mono ?_
  rintro r w6 ⟨rfl, rfl⟩
  go_wp2_with fail
  refine (HW0.out _ HQ4.out).mono ?_
  rintro r w6 ⟨rfl, rfl⟩
  go_wp2_with fail
  refine (HOF.out _ (HR4.out.call HQ4.out).all.2.2.1).mono ?_
  rintro r w7 ⟨rfl, hb7⟩
  have HBE : Hid (Below w.heap.size w w7) := (HR4.out.call HQ4.out).all.2.2.1.trans (hb7.mono (HR4.out.call HQ4.out).all.2.2.1.size)
  clear hb7
  go_wp2
  go_ret2
  exact ⟨rfl, HBE.out⟩
end Go.Proofs.YtpjdmhidhllbkaaDoor
