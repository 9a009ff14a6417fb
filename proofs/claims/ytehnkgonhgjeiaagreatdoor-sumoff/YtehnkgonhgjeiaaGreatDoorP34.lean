
/- What dyad's round does beyond the greatest number, by the nearest; and of 0. -/
import Derived.Test.YtehnkgonhgjeiaaGreatDoorP33
import Derived.Test.YtehnkgonhgjeiaaGreatDoorP15
import Derived.Test.YtehnkgonhgjeiaaGreatDoorP31
namespace Go.Proofs.YtehnkgonhgjeiaaGreatDoor
open Go.RowKit Go.IntWalk

/-- stepsOf by the nearest comes to M. -/
def StepsTo (w : World) (neg : Bool) (a : Option Addr) (n cap : Nat) (e u : Int) (M bd : Nat) : Prop := ∀ W, Below w.heap.size w W → Calls Tryz.prog 172 #[.agg #[.bool neg, .slice a n cap, .int .i64 e], .int .i64 u, .func (.func 185) #[] #[]] W fun r w' => (∃ x b k, r = .returned (.slice b x k) ∧ Hid (∃ LS, LS.length = x ∧ MagIs M bd LS b k w')) ∧ Below W.heap.size W w'
theorem steps_to_near (neg : Bool) (L : List Nat) (a : Option Addr) (cap s : Nat) (e u : Int) (w : World) (hm : MagAt w a L) (hd : DigL L) (hn : L.length ≤ 3000) (hl0 : 1 ≤ L.length) (hu : u - e = (s : Int)) (h1 : 1 ≤ s) (h2 : s ≤ 200000) : StepsTo w neg a L.length cap e u (nearV (natL L) s) (L.length + 1) := fun W hW => by
  refine (steps_near neg L a cap s e u W (hm.below hW) hd hn hl0 hu h1 h2).mono ?_
  rintro r w' ⟨⟨LS, b, k, rfl, hok⟩, hb⟩
  exact ⟨⟨LS.length, b, k, rfl, ⟨LS, rfl, hok⟩⟩, hb⟩
theorem steps_to_left (neg : Bool) (L : List Nat) (a : Option Addr) (cap s : Nat) (e u : Int) (w : World) (hm : MagAt w a L) (hd : DigL L) (hn : L.length ≤ 3000) (hu : e - u = (s : Int)) (hs : s ≤ 100000) : StepsTo w neg a L.length cap e u (natL L * 2 ^ s) (L.length + s / 32 + 1) := fun W hW => by
  refine (steps_left neg L a cap s e u _ W (hm.below hW) hd hn hu hs).mono ?_
  rintro r w' ⟨⟨LS, b, k, rfl, hok⟩, hb⟩
  exact ⟨⟨LS.length, b, k, rfl, ⟨LS, rfl, hok⟩⟩, hb⟩
set_option maxRecDepth 4000 in
set_option maxHeartbeats 4000000 in
theorem round_far (neg : Bool) (L : List Nat) (a : Option Addr) (cap M bd : Nat) (e u : Int) (w : World) (hm : MagAt w a L) (hd : DigL L) (hc : CanL L) (hmay : DyMay neg L e) (hn : L.length ≤ 3000) (hu : max (e + (bitLen (natL L) : Int) - 1 - 53 + 1) (-1074) = u) (hst : StepsTo w neg a L.length cap e u M bd) (hbd : bd ≤ 100000) (hKb : bitLen M ≤ 100000) (htop : 1023 < u + (bitLen M : Int) - 1) (he1 : -3000 ≤ e) (he2 : e ≤ 3000) (hub2 : u ≤ 3000) (hT : Tab w) (hg : 3 < w.heap.size) :
    Calls Tryz.prog 141 #[.agg #[.bool neg, .slice a L.length cap, .int .i64 e], .agg #[.int .i64 53, .int .i64 (-1074), .int .i64 1023], .int .i64 0] w fun r w' => r = .returned (.tuple #[.float .f64 (signN neg 9218868437227405312), .int .i64 0]) ∧ Below w.heap.size w w' := by
  have hbl : bitLen (natL L) ≤ 32 * 3000 := by
    have := natL_lt L hd
    rw [pow32] at this
    have h2 := bitLen_le (natL L) _ this
    omega
  have HG := hid (fun (W : World) => grows_any 0 W (by decide) (by decide))
  rw [show grF 0 = 185 from rfl] at HG
  have HMY : Hid (∀ W, Below w.heap.size w W → Calls Tryz.prog 113 #[.agg #[.bool neg, .slice a L.length cap, .int .i64 e]] W fun r w' => r = .returned (.bool true) ∧ Below W.heap.size W w') := fun W hW => May_yes neg L a cap e W (hm.below hW) hmay
  have HSZ : Hid (∀ W, Below w.heap.size w W → Calls Tryz.prog 171 #[.slice a L.length cap] W fun r w' => r = .returned (.int .i64 (bitLen (natL L))) ∧ w' = W) := fun W hW => size_any L a cap W (hm.below hW) hd hc (by omega)
  have HST := hid hst
  have HBY : Hid (∀ W, Below w.heap.size w W → Calls Tryz.prog 173 #[.bool neg, .agg #[.int .i64 53, .int .i64 (-1074), .int .i64 1023], .func (.func 185) #[] #[]] W fun r w' => r = .returned (.float .f64 (signN neg 9218868437227405312)) ∧ Below W.heap.size W w') := fun W hW => beyond_near neg W (hT.below hg hW) (Nat.lt_of_lt_of_le hg hW.size)
  obtain ⟨Y, hY⟩ : ∃ Y, Hid (signN neg 9218868437227405312 = Y) := ⟨_, rfl⟩
  rw [hY.out] at HBY ⊢
  obtain ⟨n, hnl⟩ : ∃ n, Hid (L.length = n) := ⟨_, rfl⟩
  obtain ⟨l, hl⟩ : ∃ l, Hid (bitLen (natL L) = l) := ⟨_, rfl⟩
  rw [hnl.out] at HMY HSZ HST ⊢
  rw [hl.out] at HSZ hu hbl
  obtain ⟨T, hTT⟩ : ∃ T, Hid (e + (l : Int) - 1 = T) := ⟨_, rfl⟩
  have hT0 : IntKind.i64.wrap (e + (l : Int)) = e + (l : Int) := by rw [IntWalk.i64_in _ (by omega)]
  have hT1 : IntKind.i64.wrap (e + (l : Int) - 1) = T := by have := hTT.out; rw [IntWalk.i64_in _ (by omega)]; exact this
  have hT2 : e + (l : Int) - 1 = T := hTT.out
  have hTb1 : -4000 ≤ T := by have := hTT.out; omega
  have hTb2 : T ≤ 100000 := by have := hTT.out; omega
  rw [hTT.out] at hu
  have hu1 : max (T - 53 + 1) (-1074) = u := hu
  have hub : -1074 ≤ u := by omega
  obtain ⟨K, hK⟩ : ∃ K : Nat, Hid (bitLen M = K) := ⟨_, rfl⟩
  rw [hK.out] at htop hKb
  obtain ⟨T2, hT2'⟩ : ∃ T2, Hid (u + (K : Int) - 1 = T2) := ⟨_, rfl⟩
  have hK1 : IntKind.i64.wrap (u + (K : Int)) = u + (K : Int) := by rw [IntWalk.i64_in _ (by omega)]
  have hK3 : u + (K : Int) - 1 = T2 := hT2'.out
  have hK2 : IntKind.i64.wrap (u + (K : Int) - 1) = T2 := by rw [IntWalk.i64_in _ (by omega)]; exact hK3
  have hTw : IntKind.i64.wrap T = T := by rw [IntWalk.i64_in _ (by omega)]
  have hTw2 : IntKind.i64.wrap T2 = T2 := by rw [IntWalk.i64_in _ (by omega)]
  have hgtr : (1023 : Int) < T2 := by omega
  have HK : Hid (∀ W, Hid (RdFr w neg a n cap e W) → ((W.cell? ⟨w.heap.size, 0, none⟩ = some (.bool neg) ∧ W.cell? ⟨w.heap.size, 1, none⟩ = some (.slice a n cap) ∧ W.cell? ⟨w.heap.size, 2, none⟩ = some (.int .i64 e)) ∧ (W.cell? ⟨w.heap.size + 1, 0, none⟩ = some (.int .i64 53) ∧ W.cell? ⟨w.heap.size + 1, 1, none⟩ = some (.int .i64 (-1074)) ∧ W.cell? ⟨w.heap.size + 1, 2, none⟩ = some (.int .i64 1023))) ∧ Hid (RdFr w neg a n cap e W)) := fun W h => ⟨⟨h.out.all.1, h.out.all.2.1⟩, h⟩
  have HR0 : Hid (RdFr w neg a n cap e (RdW w neg a n cap e)) := Below.refl _ _
  obtain ⟨W0, hW0⟩ : ∃ W0, Hid (RdW w neg a n cap e = W0) := ⟨_, rfl⟩
  have hW0' : RdW w neg a n cap e = W0 := hW0.out
  rw [hW0'] at HR0
  unfold RdW DyBox FmBox at hW0'
  have HU := hid hu
  have HNS := hid (show bd ≤ 100000 from hbd)
  clear hm hd hc hmay hn hu hst hbd htop he1 he2 hT hg hbl
  go_enter Tryz.func141, Tryz.ntmps141
  go_wp2_with fail
  refine (HG.out _).mono ?_
  rintro r w1 ⟨rfl, hb1⟩
  have HR1 : Hid (RdFr w neg a n cap e w1) := HR0.out.call hb1
  obtain ⟨⟨⟨p0, p1, p2⟩, ⟨q0, q1, q2⟩⟩, _⟩ := HK.out _ HR1
  clear hb1
  go_wp2_with fail
  refine (HMY.out _ HR1.out.all.2.2.1).mono ?_
  rintro r w2 ⟨rfl, hb2⟩
  have HR2 : Hid (RdFr w neg a n cap e w2) := HR1.out.call hb2
  obtain ⟨⟨⟨r0, r1, r2⟩, ⟨s0, s1, s2⟩⟩, _⟩ := HK.out _ HR2
  clear hb2 p0 p1 p2 q0 q1 q2
  have hfn := func_nil 185
  have HQ0 : Hid (RdFr w neg a n cap e w2.drew) := HR2.out.call (Below.refl _ _).drew
  have HSZ2 : Hid (∀ W, Hid (RdFr w neg a n cap e W) → Calls Tryz.prog 171 #[.slice a n cap] W fun r w' => r = .returned (.int .i64 l) ∧ w' = W) := fun W hW => HSZ.out W hW.out.all.2.2.1
  go_wp2_with fail
  go_region_held3 (fun W => ((W.cell? ⟨w.heap.size, 0, none⟩ = some (.bool neg) ∧ W.cell? ⟨w.heap.size, 1, none⟩ = some (.slice a n cap) ∧ W.cell? ⟨w.heap.size, 2, none⟩ = some (.int .i64 e)) ∧ (W.cell? ⟨w.heap.size + 1, 0, none⟩ = some (.int .i64 53) ∧ W.cell? ⟨w.heap.size + 1, 1, none⟩ = some (.int .i64 (-1074)) ∧ W.cell? ⟨w.heap.size + 1, 2, none⟩ = some (.int .i64 1023))) ∧ Hid (RdFr w neg a n cap e W))
    ((refine HK.out _ ?_; first | assumption | exact HQ0))
    ((go_at_call 171; refine (HSZ2.out _ (And.right (by assumption))).mono ?_; rintro r w3 ⟨rfl, rfl⟩))
  go_wp2_with fail
  refine (HST.out _ (HQ0.out.all.2.2.1)).mono ?_
  rintro r w4 ⟨⟨x, b, k, rfl, HLS⟩, hb4⟩
  have HR4 : Hid (RdFr w neg a n cap e w4) := HQ0.out.call hb4
  obtain ⟨⟨⟨t0, t1, t2⟩, ⟨u0, u1, u2⟩⟩, _⟩ := HK.out _ HR4
  have HK4 : Hid (∀ W, Hid (Below w4.heap.size w4 W) → W.cell? ⟨w.heap.size + 1, 2, none⟩ = some (.int .i64 1023) ∧ Hid (Below w4.heap.size w4 W)) := fun W hW => ⟨(HK.out W (HR4.out.call hW.out)).1.2.2.2, hW⟩
  have HQ4 : Hid (Below w4.heap.size w4 w4.drew) := (Below.refl _ _).drew
  have HS4 : Hid (∀ W, Hid (Below w4.heap.size w4 W) → Calls Tryz.prog 171 #[.slice b x k] W fun r w' => r = .returned (.int .i64 (K : Nat)) ∧ w' = W) := fun W hW => by
    obtain ⟨LS, rfl, h⟩ := HLS.out
    have := size_any LS b k W (h.2.2.1.below hW.out) h.2.2.2.1 h.2.2.2.2.1 (by have := h.2.1; have := HNS.out; omega)
    rw [h.2.2.2.2.2, hK.out] at this
    exact this
  clear hb4 r0 r1 r2 s0 s1 s2 HLS HST HSZ HSZ2 HG HMY
  go_wp2_with fail
  go_region_held3 (fun W => W.cell? ⟨w.heap.size + 1, 2, none⟩ = some (.int .i64 1023) ∧ Hid (Below w4.heap.size w4 W))
    ((refine HK4.out _ ?_; first | assumption | exact HQ4))
    ((go_at_call 171; refine (HS4.out _ (And.right (by assumption))).mono ?_; rintro r w5 ⟨rfl, rfl⟩))
  obtain ⟨⟨⟨y0, y1, y2⟩, ⟨z0, z1, z2⟩⟩, _⟩ := HK.out _ (hid (HR4.out.call HQ4.out))
  clear t0 t1 t2 u0 u1 u2
  go_wp2_with fail
  refine (HBY.out _ (HR4.out.call HQ4.out).all.2.2.1).mono ?_
  rintro r w7 ⟨rfl, hb7⟩
  have HBE : Hid (Below w.heap.size w w7) := (HR4.out.call HQ4.out).all.2.2.1.trans (hb7.mono (HR4.out.call HQ4.out).all.2.2.1.size)
  clear hb7
  go_wp2
  go_ret2
  exact ⟨rfl, HBE.out⟩
set_option maxRecDepth 4000 in
set_option maxHeartbeats 4000000 in
theorem round_fin (neg : Bool) (L : List Nat) (a : Option Addr) (cap M bd : Nat) (e u : Int) (w : World) (hm : MagAt w a L) (hd : DigL L) (hc : CanL L) (hmay : DyMay neg L e) (hn : L.length ≤ 3000) (hu : max (e + (bitLen (natL L) : Int) - 1 - 53 + 1) (-1074) = u) (hst : StepsTo w neg a L.length cap e u M bd) (hbd : bd ≤ 100000) (hfit : M ≤ 9007199254740992) (htop : u + (bitLen M : Int) - 1 ≤ 1023) (he1 : -3000 ≤ e) (he2 : e ≤ 3000) (hub2 : u ≤ 3000) (hT : Tab w) (hg : 3 < w.heap.size) :
    Calls Tryz.prog 141 #[.agg #[.bool neg, .slice a L.length cap, .int .i64 e], .agg #[.int .i64 53, .int .i64 (-1074), .int .i64 1023], .int .i64 0] w fun r w' => r = .returned (.tuple #[.float .f64 (signN neg (wMag M u)), .int .i64 0]) ∧ Below w.heap.size w w' := by
  have hbl : bitLen (natL L) ≤ 32 * 3000 := by
    have := natL_lt L hd
    rw [pow32] at this
    have h2 := bitLen_le (natL L) _ this
    omega
  have HG := hid (fun (W : World) => grows_any 0 W (by decide) (by decide))
  rw [show grF 0 = 185 from rfl] at HG
  have HMY : Hid (∀ W, Below w.heap.size w W → Calls Tryz.prog 113 #[.agg #[.bool neg, .slice a L.length cap, .int .i64 e]] W fun r w' => r = .returned (.bool true) ∧ Below W.heap.size W w') := fun W hW => May_yes neg L a cap e W (hm.below hW) hmay
  have HSZ : Hid (∀ W, Below w.heap.size w W → Calls Tryz.prog 171 #[.slice a L.length cap] W fun r w' => r = .returned (.int .i64 (bitLen (natL L))) ∧ w' = W) := fun W hW => size_any L a cap W (hm.below hW) hd hc (by omega)
  have HST := hid hst
  have HOF : Hid (∀ W, Below w.heap.size w W → Calls Tryz.prog 128 #[.agg #[.bool neg, .int .u64 (M : Nat), .int .i64 u]] W fun r w' => r = .returned (.tuple #[.float .f64 (signN neg (wMag M u)), .int .i64 0]) ∧ Below W.heap.size W w') := fun W hW => Of_good neg M u W hfit (by omega) htop (hT.below hg hW) (Nat.lt_of_lt_of_le hg hW.size)
  obtain ⟨n, hnl⟩ : ∃ n, Hid (L.length = n) := ⟨_, rfl⟩
  obtain ⟨l, hl⟩ : ∃ l, Hid (bitLen (natL L) = l) := ⟨_, rfl⟩
  rw [hnl.out] at HMY HSZ HST ⊢
  rw [hl.out] at HSZ hu hbl
  have HMB := hid (show M < 18446744073709551616 by omega)
  obtain ⟨T, hTT⟩ : ∃ T, Hid (e + (l : Int) - 1 = T) := ⟨_, rfl⟩
  have hT0 : IntKind.i64.wrap (e + (l : Int)) = e + (l : Int) := by rw [IntWalk.i64_in _ (by omega)]
  have hT1 : IntKind.i64.wrap (e + (l : Int) - 1) = T := by have := hTT.out; rw [IntWalk.i64_in _ (by omega)]; exact this
  have hT2 : e + (l : Int) - 1 = T := hTT.out
  have hTb1 : -4000 ≤ T := by have := hTT.out; omega
  have hTb2 : T ≤ 100000 := by have := hTT.out; omega
  rw [hTT.out] at hu
  have hu1 : max (T - 53 + 1) (-1074) = u := hu
  have hub : -1074 ≤ u := by omega
  obtain ⟨K, hK⟩ : ∃ K : Nat, Hid (bitLen M = K) := ⟨_, rfl⟩
  rw [hK.out] at htop
  have hKb : K ≤ 60 := by
    have : M < 2 ^ 54 := by have e54 : (2 : Nat) ^ 54 = 18014398509481984 := by decide
                            omega
    have := bitLen_le M 54 this
    have := hK.out
    omega
  obtain ⟨T2, hT2'⟩ : ∃ T2, Hid (u + (K : Int) - 1 = T2) := ⟨_, rfl⟩
  have hK1 : IntKind.i64.wrap (u + (K : Int)) = u + (K : Int) := by rw [IntWalk.i64_in _ (by omega)]
  have hK3 : u + (K : Int) - 1 = T2 := hT2'.out
  have hK2 : IntKind.i64.wrap (u + (K : Int) - 1) = T2 := by rw [IntWalk.i64_in _ (by omega)]; exact hK3
  have hTw : IntKind.i64.wrap T = T := by rw [IntWalk.i64_in _ (by omega)]
  have hTw2 : IntKind.i64.wrap T2 = T2 := by rw [IntWalk.i64_in _ (by omega)]
  have hgtr : ¬ (1023 : Int) < T2 := by omega
  have HK : Hid (∀ W, Hid (RdFr w neg a n cap e W) → ((W.cell? ⟨w.heap.size, 0, none⟩ = some (.bool neg) ∧ W.cell? ⟨w.heap.size, 1, none⟩ = some (.slice a n cap) ∧ W.cell? ⟨w.heap.size, 2, none⟩ = some (.int .i64 e)) ∧ (W.cell? ⟨w.heap.size + 1, 0, none⟩ = some (.int .i64 53) ∧ W.cell? ⟨w.heap.size + 1, 1, none⟩ = some (.int .i64 (-1074)) ∧ W.cell? ⟨w.heap.size + 1, 2, none⟩ = some (.int .i64 1023))) ∧ Hid (RdFr w neg a n cap e W)) := fun W h => ⟨⟨h.out.all.1, h.out.all.2.1⟩, h⟩
  have HR0 : Hid (RdFr w neg a n cap e (RdW w neg a n cap e)) := Below.refl _ _
  obtain ⟨W0, hW0⟩ : ∃ W0, Hid (RdW w neg a n cap e = W0) := ⟨_, rfl⟩
  have hW0' : RdW w neg a n cap e = W0 := hW0.out
  rw [hW0'] at HR0
  unfold RdW DyBox FmBox at hW0'
  have HU := hid hu
  have HNS := hid (show bd ≤ 100000 from hbd)
  clear hm hd hc hmay hn hu hst hbd hfit htop he1 he2 hT hg hbl
  go_enter Tryz.func141, Tryz.ntmps141
  go_wp2_with fail
  refine (HG.out _).mono ?_
  rintro r w1 ⟨rfl, hb1⟩
  have HR1 : Hid (RdFr w neg a n cap e w1) := HR0.out.call hb1
  obtain ⟨⟨⟨p0, p1, p2⟩, ⟨q0, q1, q2⟩⟩, _⟩ := HK.out _ HR1
  clear hb1
  go_wp2_with fail
  refine (HMY.out _ HR1.out.all.2.2.1).mono ?_
  rintro r w2 ⟨rfl, hb2⟩
  have HR2 : Hid (RdFr w neg a n cap e w2) := HR1.out.call hb2
  obtain ⟨⟨⟨r0, r1, r2⟩, ⟨s0, s1, s2⟩⟩, _⟩ := HK.out _ HR2
  clear hb2 p0 p1 p2 q0 q1 q2
  have hfn := func_nil 185
  have HQ0 : Hid (RdFr w neg a n cap e w2.drew) := HR2.out.call (Below.refl _ _).drew
  have HSZ2 : Hid (∀ W, Hid (RdFr w neg a n cap e W) → Calls Tryz.prog 171 #[.slice a n cap] W fun r w' => r = .returned (.int .i64 l) ∧ w' = W) := fun W hW => HSZ.out W hW.out.all.2.2.1
  go_wp2_with fail
  go_region_held3 (fun W => ((W.cell? ⟨w.heap.size, 0, none⟩ = some (.bool neg) ∧ W.cell? ⟨w.heap.size, 1, none⟩ = some (.slice a n cap) ∧ W.cell? ⟨w.heap.size, 2, none⟩ = some (.int .i64 e)) ∧ (W.cell? ⟨w.heap.size + 1, 0, none⟩ = some (.int .i64 53) ∧ W.cell? ⟨w.heap.size + 1, 1, none⟩ = some (.int .i64 (-1074)) ∧ W.cell? ⟨w.heap.size + 1, 2, none⟩ = some (.int .i64 1023))) ∧ Hid (RdFr w neg a n cap e W))
    ((refine HK.out _ ?_; first | assumption | exact HQ0))
    ((go_at_call 171; refine (HSZ2.out _ (And.right (by assumption))).mono ?_; rintro r w3 ⟨rfl, rfl⟩))
  go_wp2_with fail
  refine (HST.out _ (HQ0.out.all.2.2.1)).mono ?_
  rintro r w4 ⟨⟨x, b, k, rfl, HLS⟩, hb4⟩
  have HR4 : Hid (RdFr w neg a n cap e w4) := HQ0.out.call hb4
  obtain ⟨⟨⟨t0, t1, t2⟩, ⟨u0, u1, u2⟩⟩, _⟩ := HK.out _ HR4
  have HK4 : Hid (∀ W, Hid (Below w4.heap.size w4 W) → W.cell? ⟨w.heap.size + 1, 2, none⟩ = some (.int .i64 1023) ∧ Hid (Below w4.heap.size w4 W)) := fun W hW => ⟨(HK.out W (HR4.out.call hW.out)).1.2.2.2, hW⟩
  have HQ4 : Hid (Below w4.heap.size w4 w4.drew) := (Below.refl _ _).drew
  have HS4 : Hid (∀ W, Hid (Below w4.heap.size w4 W) → Calls Tryz.prog 171 #[.slice b x k] W fun r w' => r = .returned (.int .i64 (K : Nat)) ∧ w' = W) := fun W hW => by
    obtain ⟨LS, rfl, h⟩ := HLS.out
    have := size_any LS b k W (h.2.2.1.below hW.out) h.2.2.2.1 h.2.2.2.2.1 (by have := h.2.1; have := HNS.out; omega)
    rw [h.2.2.2.2.2, hK.out] at this
    exact this
  obtain ⟨LS, hLx, hLS⟩ := HLS.out
  obtain ⟨tw1, tw2⟩ := two_words LS M hLS.2.2.2.2.1 hLS.2.2.2.2.2 HMB.out
  have HW1 : Hid (∀ W, Below w4.heap.size w4 W → Calls Tryz.prog 169 #[.slice b x k, .int .i64 1] W fun r w' => r = .returned (.int .u32 (LS.getD 1 0)) ∧ w' = W) := fun W hW => by
    rw [← hLx]
    exact word_any LS b k 1 W (hLS.2.2.1.below hW)
  have HW0 : Hid (∀ W, Below w4.heap.size w4 W → Calls Tryz.prog 169 #[.slice b x k, .int .i64 0] W fun r w' => r = .returned (.int .u32 (LS.getD 0 0)) ∧ w' = W) := fun W hW => by
    rw [← hLx]
    exact word_any LS b k 0 W (hLS.2.2.1.below hW)
  have hg0 := hLS.2.2.2.1.get 0
  have hg1 := hLS.2.2.2.1.get 1
  obtain ⟨x0, hx0⟩ : ∃ x0, Hid (LS.getD 0 0 = x0) := ⟨_, rfl⟩
  obtain ⟨x1, hx1⟩ : ∃ x1, Hid (LS.getD 1 0 = x1) := ⟨_, rfl⟩
  rw [hx0.out] at HW0 hg0 tw2
  rw [hx1.out] at HW1 hg1 tw2
  have hor := or_words2 x0 x1 hg0 hg1
  rw [tw2] at hor
  have hwx0 : IntKind.u64.wrap (x0 : Int) = (x0 : Int) := by rw [IntKind.wrap_u64]; omega
  have hwx1 : IntKind.u64.wrap (x1 : Int) = (x1 : Int) := by rw [IntKind.wrap_u64]; omega
  have hwx2 : IntKind.u64.wrap ((x1 : Int) * 4294967296) = (x1 : Int) * 4294967296 := by rw [IntKind.wrap_u64]; omega
  clear hb4 r0 r1 r2 s0 s1 s2 HLS hLS tw1 tw2 hg0 hg1 HST HSZ HSZ2 HG HMY
  go_wp2_with fail
  go_region_held3 (fun W => W.cell? ⟨w.heap.size + 1, 2, none⟩ = some (.int .i64 1023) ∧ Hid (Below w4.heap.size w4 W))
    ((refine HK4.out _ ?_; first | assumption | exact HQ4))
    ((go_at_call 171; refine (HS4.out _ (And.right (by assumption))).mono ?_; rintro r w5 ⟨rfl, rfl⟩))
  go_wp2_with fail
  refine (HW1.out _ HQ4.out).mono ?_
  rintro r w6 ⟨rfl, rfl⟩
  go_wp2_with fail
  refine (HW0.out _ HQ4.out).mono ?_
  rintro r w6 ⟨rfl, rfl⟩
  go_wp2_with fail
  refine (HOF.out _ (HR4.out.call HQ4.out).all.2.2.1).mono ?_
  rintro r w7 ⟨rfl, hb7⟩
  have HBE : Hid (Below w.heap.size w w7) := (HR4.out.call HQ4.out).all.2.2.1.trans (hb7.mono (HR4.out.call HQ4.out).all.2.2.1.size)
  clear hb7
  go_wp2
  go_ret2
  exact ⟨rfl, HBE.out⟩
end Go.Proofs.YtehnkgonhgjeiaaGreatDoor

namespace Go.Proofs.YtehnkgonhgjeiaaGreatDoor
open Go.RowKit Go.IntWalk

/-- Of an odd number's rest. -/
theorem rest_odd (m s : Nat) (h : m % 2 = 1) (hs : 1 ≤ s) : restN m s = restV m s + 1 := by
  obtain ⟨t, rfl⟩ : ∃ t, s = t + 1 := ⟨s - 1, by omega⟩
  unfold restN restV
  rw [Nat.add_sub_cancel]
  have hp : 2 ^ (t + 1) = 2 * 2 ^ t := by rw [Nat.pow_succ, Nat.mul_comm]
  have hm : m % 2 ^ (t + 1) = m % 2 ^ t + 2 ^ t * (m / 2 ^ t % 2) := by rw [Nat.pow_succ, Nat.mod_mul]
  have hpos := Nat.two_pow_pos t
  have hlt : m % 2 ^ t < 2 ^ t := Nat.mod_lt _ hpos
  by_cases h1 : t = 0
  · subst h1
    have e1 : m % 2 ^ (0 + 1) = 1 := by simpa using h
    rw [e1, if_neg (by decide), if_pos rfl]
    rfl
  · have hr : m % 2 ^ t ≠ 0 := by
      obtain ⟨k, rfl⟩ : ∃ k, t = k + 1 := ⟨t - 1, by omega⟩
      intro c
      have : m % 2 ^ (k + 1) % 2 = m % 2 := Nat.mod_mod_of_dvd _ ⟨2 ^ k, by rw [Nat.pow_succ, Nat.mul_comm]⟩
      rw [c] at this
      omega
    rw [if_neg (show ¬ t + 1 = 1 by omega), hm, hp]
    rcases (show m / 2 ^ t % 2 = 0 ∨ m / 2 ^ t % 2 = 1 by omega) with hb | hb
    · rw [hb, Nat.mul_zero, Nat.add_zero, if_neg hr, if_pos (by omega), if_neg (by decide)]
    · rw [hb, Nat.mul_one, if_neg (by omega), if_neg (by omega), if_neg (by omega), if_pos rfl]
theorem near_step (m s : Nat) (h : m % 2 = 1) (hs : 1 ≤ s) : stepQ m (s : Int) 0 false = nearV m s := by
  have q : cutQ m (s : Int) = m / 2 ^ s := by unfold cutQ; rw [if_neg (by omega), Int.toNat_natCast]
  have r : cutR m (s : Int) = restV m s + 1 := by unfold cutR; rw [if_neg (by omega), Int.toNat_natCast, rest_odd m s h hs]
  unfold stepQ nearV
  rw [q, r]
  have hl : restV m s ≤ 2 := by unfold restV; split <;> (try split) <;> omega
  congr 1
  by_cases c : restV m s = 2 ∨ restV m s = 1 ∧ m / 2 ^ s % 2 = 1
  · rw [if_pos c, if_pos]
    refine ⟨by omega, ?_⟩
    rcases c with c | ⟨c, d⟩
    · rw [c]; simp [growsOf]
    · rw [c, d]; simp [growsOf]
  · rw [if_neg c, if_neg]
    rintro ⟨_, g⟩
    apply c
    rcases (show restV m s = 0 ∨ restV m s = 1 ∨ restV m s = 2 by omega) with r | r | r
    · rw [r] at g; simp [growsOf] at g
    · rw [r] at g
      refine Or.inr ⟨r, ?_⟩
      simpa [growsOf] using g
    · exact Or.inl r
theorem round0_any (neg : Bool) (L : List Nat) (a : Option Addr) (cap : Nat) (e : Int) (w : World) (hm : MagAt w a L) (hd : DigL L) (hc : CanL L) (hmay : DyMay neg L e) (hodd : natL L % 2 = 1) (hn : L.length ≤ 201) (he1 : -3000 ≤ e) (htop : e + (bitLen (natL L) : Int) ≤ 2900) (he2 : e ≤ 2900) (hT : Tab w) (hg : 3 < w.heap.size) :
    Calls Tryz.prog 141 #[.agg #[.bool neg, .slice a L.length cap, .int .i64 e], .agg #[.int .i64 53, .int .i64 (-1074), .int .i64 1023], .int .i64 0] w fun r w' => r = .returned (.tuple #[.float .f64 (signN neg (rMag 53 (-1022) 1023 (natL L) e 0 false)), .int .i64 0]) ∧ Below w.heap.size w w' := by
  have h0 : natL L ≠ 0 := by omega
  have hl1 : 1 ≤ L.length := by
    apply Classical.byContradiction
    intro c
    have : L = [] := List.length_eq_zero_iff.1 (by omega)
    rw [this] at h0
    exact h0 rfl
  have hbl : bitLen (natL L) ≤ 32 * 201 := by
    have := natL_lt L hd
    rw [pow32] at this
    have h2 := bitLen_le (natL L) _ this
    omega
  have hbp := bitLen_pos h0
  obtain ⟨u, hu⟩ : ∃ u, rUnit 53 (-1022) (natL L) e = u := ⟨_, rfl⟩
  have hu2 : max (e + (bitLen (natL L) : Int) - 1 - 53 + 1) (-1074) = u := by rw [← hu]; unfold rUnit rTop; omega
  obtain ⟨M, hM⟩ : ∃ M, rSteps 53 (-1022) (natL L) e 0 false = M := ⟨_, rfl⟩
  have hMs : stepQ (natL L) (u - e) 0 false = M := by rw [← hM]; unfold rSteps; rw [hu]
  have hMle : M ≤ 9007199254740992 := by
    have := rSteps_le 53 (-1022) (natL L) e 0 false 53 rfl
    have e53 : (2 : Nat) ^ 53 = 9007199254740992 := by decide
    omega
  have hK : bitLen M ≤ 54 := by
    have e54 : (2 : Nat) ^ 54 = 18014398509481984 := by decide
    exact bitLen_le M 54 (by omega)
  have hst : ∃ bd, bd ≤ 100000 ∧ StepsTo w neg a L.length cap e u M bd := by
    by_cases hc1 : 1 ≤ u - e
    · obtain ⟨s, hs⟩ := Int.eq_ofNat_of_zero_le (show 0 ≤ u - e by omega)
      rw [hs, near_step _ s hodd (by omega)] at hMs
      rw [← hMs]
      exact ⟨_, by omega, steps_to_near neg L a cap s e u w hm hd (by omega) hl1 hs (by omega) (by omega)⟩
    · obtain ⟨s, hs⟩ := Int.eq_ofNat_of_zero_le (show 0 ≤ e - u by omega)
      have e1 : stepQ (natL L) (u - e) 0 false = natL L * 2 ^ s := by
        have q : cutQ (natL L) (u - e) = natL L * 2 ^ s := by unfold cutQ; rw [if_pos (by omega), show (-(u - e)).toNat = s by omega]
        have r : cutR (natL L) (u - e) = 0 := by unfold cutR; rw [if_pos (by omega)]
        unfold stepQ
        rw [q, r, if_neg (fun c => c.1 rfl), Nat.add_zero]
      rw [← hMs, e1]
      exact ⟨_, by omega, steps_to_left neg L a cap s e u w hm hd (by omega) hs (by omega)⟩
  obtain ⟨bd, hbd, hst⟩ := hst
  by_cases ho : rOver 53 (-1022) 1023 (natL L) e 0 false
  · have er : rMag 53 (-1022) 1023 (natL L) e 0 false = 9218868437227405312 := by
      unfold rMag
      rw [if_pos ho]
      rfl
    rw [er]
    unfold rOver at ho
    rw [hu, hM] at ho
    exact round_far neg L a cap M bd e u w hm hd hc hmay (by omega) hu2 hst hbd (by omega) ho (by omega) (by omega) (by omega) hT hg
  · have er : rMag 53 (-1022) 1023 (natL L) e 0 false = wMag M u := by
      unfold rMag
      rw [if_neg ho, hu, hM]
    rw [er]
    unfold rOver at ho
    rw [hu, hM] at ho
    exact round_fin neg L a cap M bd e u w hm hd hc hmay (by omega) hu2 hst hbd hMle (by omega) (by omega) (by omega) (by omega) hT hg
end Go.Proofs.YtehnkgonhgjeiaaGreatDoor

namespace Go.Proofs.YtehnkgonhgjeiaaGreatDoor
open Go.RowKit Go.IntWalk

/-- stepsOf by a mode comes to M. -/
def StepsG (g : Value) (w : World) (neg : Bool) (a : Option Addr) (n cap : Nat) (e u : Int) (M bd : Nat) : Prop := ∀ W, Below w.heap.size w W → Calls Tryz.prog 172 #[.agg #[.bool neg, .slice a n cap, .int .i64 e], .int .i64 u, g] W fun r w' => (∃ x b k, r = .returned (.slice b x k) ∧ Hid (∃ LS, LS.length = x ∧ MagIs M bd LS b k w')) ∧ Below W.heap.size W w'
theorem steps_to_leftG (g : Value) (neg : Bool) (L : List Nat) (a : Option Addr) (cap s : Nat) (e u : Int) (w : World) (hm : MagAt w a L) (hd : DigL L) (hn : L.length ≤ 3000) (hu : e - u = (s : Int)) (hs : s ≤ 100000) : StepsG g w neg a L.length cap e u (natL L * 2 ^ s) (L.length + s / 32 + 1) := fun W hW => by
  refine (steps_left neg L a cap s e u _ W (hm.below hW) hd hn hu hs).mono ?_
  rintro r w' ⟨⟨LS, b, k, rfl, hok⟩, hb⟩
  exact ⟨⟨LS.length, b, k, rfl, ⟨LS, rfl, hok⟩⟩, hb⟩
set_option maxRecDepth 4000 in
set_option maxHeartbeats 4000000 in
theorem round_finG (mode : Int) (hm1 : 0 ≤ mode) (hm2 : mode ≤ 4) (neg : Bool) (L : List Nat) (a : Option Addr) (cap M bd : Nat) (e u : Int) (w : World) (hm : MagAt w a L) (hd : DigL L) (hc : CanL L) (hmay : DyMay neg L e) (hn : L.length ≤ 3000) (hu : max (e + (bitLen (natL L) : Int) - 1 - 53 + 1) (-1074) = u) (hst : StepsG (.func (.func (grF mode)) #[] #[]) w neg a L.length cap e u M bd) (hbd : bd ≤ 100000) (hfit : M ≤ 9007199254740992) (htop : u + (bitLen M : Int) - 1 ≤ 1023) (he1 : -3000 ≤ e) (he2 : e ≤ 3000) (hub2 : u ≤ 3000) (hT : Tab w) (hg : 3 < w.heap.size) :
    Calls Tryz.prog 141 #[.agg #[.bool neg, .slice a L.length cap, .int .i64 e], .agg #[.int .i64 53, .int .i64 (-1074), .int .i64 1023], .int .i64 mode] w fun r w' => r = .returned (.tuple #[.float .f64 (signN neg (wMag M u)), .int .i64 0]) ∧ Below w.heap.size w w' := by
  have hbl : bitLen (natL L) ≤ 32 * 3000 := by
    have := natL_lt L hd
    rw [pow32] at this
    have h2 := bitLen_le (natL L) _ this
    omega
  have HG := hid (fun (W : World) => grows_any mode W hm1 hm2)
  have HMY : Hid (∀ W, Below w.heap.size w W → Calls Tryz.prog 113 #[.agg #[.bool neg, .slice a L.length cap, .int .i64 e]] W fun r w' => r = .returned (.bool true) ∧ Below W.heap.size W w') := fun W hW => May_yes neg L a cap e W (hm.below hW) hmay
  have HSZ : Hid (∀ W, Below w.heap.size w W → Calls Tryz.prog 171 #[.slice a L.length cap] W fun r w' => r = .returned (.int .i64 (bitLen (natL L))) ∧ w' = W) := fun W hW => size_any L a cap W (hm.below hW) hd hc (by omega)
  have HST := hid hst
  have HOF : Hid (∀ W, Below w.heap.size w W → Calls Tryz.prog 128 #[.agg #[.bool neg, .int .u64 (M : Nat), .int .i64 u]] W fun r w' => r = .returned (.tuple #[.float .f64 (signN neg (wMag M u)), .int .i64 0]) ∧ Below W.heap.size W w') := fun W hW => Of_good neg M u W hfit (by omega) htop (hT.below hg hW) (Nat.lt_of_lt_of_le hg hW.size)
  obtain ⟨n, hnl⟩ : ∃ n, Hid (L.length = n) := ⟨_, rfl⟩
  obtain ⟨l, hl⟩ : ∃ l, Hid (bitLen (natL L) = l) := ⟨_, rfl⟩
  rw [hnl.out] at HMY HSZ HST ⊢
  rw [hl.out] at HSZ hu hbl
  have HMB := hid (show M < 18446744073709551616 by omega)
  obtain ⟨T, hTT⟩ : ∃ T, Hid (e + (l : Int) - 1 = T) := ⟨_, rfl⟩
  have hT0 : IntKind.i64.wrap (e + (l : Int)) = e + (l : Int) := by rw [IntWalk.i64_in _ (by omega)]
  have hT1 : IntKind.i64.wrap (e + (l : Int) - 1) = T := by have := hTT.out; rw [IntWalk.i64_in _ (by omega)]; exact this
  have hT2 : e + (l : Int) - 1 = T := hTT.out
  have hTb1 : -4000 ≤ T := by have := hTT.out; omega
  have hTb2 : T ≤ 100000 := by have := hTT.out; omega
  rw [hTT.out] at hu
  have hu1 : max (T - 53 + 1) (-1074) = u := hu
  have hub : -1074 ≤ u := by omega
  obtain ⟨K, hK⟩ : ∃ K : Nat, Hid (bitLen M = K) := ⟨_, rfl⟩
  rw [hK.out] at htop
  have hKb : K ≤ 60 := by
    have : M < 2 ^ 54 := by have e54 : (2 : Nat) ^ 54 = 18014398509481984 := by decide
                            omega
    have := bitLen_le M 54 this
    have := hK.out
    omega
  obtain ⟨T2, hT2'⟩ : ∃ T2, Hid (u + (K : Int) - 1 = T2) := ⟨_, rfl⟩
  have hK1 : IntKind.i64.wrap (u + (K : Int)) = u + (K : Int) := by rw [IntWalk.i64_in _ (by omega)]
  have hK3 : u + (K : Int) - 1 = T2 := hT2'.out
  have hK2 : IntKind.i64.wrap (u + (K : Int) - 1) = T2 := by rw [IntWalk.i64_in _ (by omega)]; exact hK3
  have hTw : IntKind.i64.wrap T = T := by rw [IntWalk.i64_in _ (by omega)]
  have hTw2 : IntKind.i64.wrap T2 = T2 := by rw [IntWalk.i64_in _ (by omega)]
  have hgtr : ¬ (1023 : Int) < T2 := by omega
  have HK : Hid (∀ W, Hid (RdFr w neg a n cap e W) → ((W.cell? ⟨w.heap.size, 0, none⟩ = some (.bool neg) ∧ W.cell? ⟨w.heap.size, 1, none⟩ = some (.slice a n cap) ∧ W.cell? ⟨w.heap.size, 2, none⟩ = some (.int .i64 e)) ∧ (W.cell? ⟨w.heap.size + 1, 0, none⟩ = some (.int .i64 53) ∧ W.cell? ⟨w.heap.size + 1, 1, none⟩ = some (.int .i64 (-1074)) ∧ W.cell? ⟨w.heap.size + 1, 2, none⟩ = some (.int .i64 1023))) ∧ Hid (RdFr w neg a n cap e W)) := fun W h => ⟨⟨h.out.all.1, h.out.all.2.1⟩, h⟩
  have HR0 : Hid (RdFr w neg a n cap e (RdW w neg a n cap e)) := Below.refl _ _
  obtain ⟨W0, hW0⟩ : ∃ W0, Hid (RdW w neg a n cap e = W0) := ⟨_, rfl⟩
  have hW0' : RdW w neg a n cap e = W0 := hW0.out
  rw [hW0'] at HR0
  unfold RdW DyBox FmBox at hW0'
  have HU := hid hu
  have HNS := hid (show bd ≤ 100000 from hbd)
  clear hm1 hm2 hm hd hc hmay hn hu hst hbd hfit htop he1 he2 hT hg hbl
  go_enter Tryz.func141, Tryz.ntmps141
  go_wp2_with fail
  refine (HG.out _).mono ?_
  rintro r w1 ⟨rfl, hb1⟩
  have HR1 : Hid (RdFr w neg a n cap e w1) := HR0.out.call hb1
  obtain ⟨⟨⟨p0, p1, p2⟩, ⟨q0, q1, q2⟩⟩, _⟩ := HK.out _ HR1
  clear hb1
  go_wp2_with fail
  refine (HMY.out _ HR1.out.all.2.2.1).mono ?_
  rintro r w2 ⟨rfl, hb2⟩
  have HR2 : Hid (RdFr w neg a n cap e w2) := HR1.out.call hb2
  obtain ⟨⟨⟨r0, r1, r2⟩, ⟨s0, s1, s2⟩⟩, _⟩ := HK.out _ HR2
  clear hb2 p0 p1 p2 q0 q1 q2
  have hfn := func_nil (grF mode)
  have HQ0 : Hid (RdFr w neg a n cap e w2.drew) := HR2.out.call (Below.refl _ _).drew
  have HSZ2 : Hid (∀ W, Hid (RdFr w neg a n cap e W) → Calls Tryz.prog 171 #[.slice a n cap] W fun r w' => r = .returned (.int .i64 l) ∧ w' = W) := fun W hW => HSZ.out W hW.out.all.2.2.1
  go_wp2_with fail
  go_region_held3 (fun W => ((W.cell? ⟨w.heap.size, 0, none⟩ = some (.bool neg) ∧ W.cell? ⟨w.heap.size, 1, none⟩ = some (.slice a n cap) ∧ W.cell? ⟨w.heap.size, 2, none⟩ = some (.int .i64 e)) ∧ (W.cell? ⟨w.heap.size + 1, 0, none⟩ = some (.int .i64 53) ∧ W.cell? ⟨w.heap.size + 1, 1, none⟩ = some (.int .i64 (-1074)) ∧ W.cell? ⟨w.heap.size + 1, 2, none⟩ = some (.int .i64 1023))) ∧ Hid (RdFr w neg a n cap e W))
    ((refine HK.out _ ?_; first | assumption | exact HQ0))
    ((go_at_call 171; refine (HSZ2.out _ (And.right (by assumption))).mono ?_; rintro r w3 ⟨rfl, rfl⟩))
  go_wp2_with fail
  refine (HST.out _ (HQ0.out.all.2.2.1)).mono ?_
  rintro r w4 ⟨⟨x, b, k, rfl, HLS⟩, hb4⟩
  have HR4 : Hid (RdFr w neg a n cap e w4) := HQ0.out.call hb4
  obtain ⟨⟨⟨t0, t1, t2⟩, ⟨u0, u1, u2⟩⟩, _⟩ := HK.out _ HR4
  have HK4 : Hid (∀ W, Hid (Below w4.heap.size w4 W) → W.cell? ⟨w.heap.size + 1, 2, none⟩ = some (.int .i64 1023) ∧ Hid (Below w4.heap.size w4 W)) := fun W hW => ⟨(HK.out W (HR4.out.call hW.out)).1.2.2.2, hW⟩
  have HQ4 : Hid (Below w4.heap.size w4 w4.drew) := (Below.refl _ _).drew
  have HS4 : Hid (∀ W, Hid (Below w4.heap.size w4 W) → Calls Tryz.prog 171 #[.slice b x k] W fun r w' => r = .returned (.int .i64 (K : Nat)) ∧ w' = W) := fun W hW => by
    obtain ⟨LS, rfl, h⟩ := HLS.out
    have := size_any LS b k W (h.2.2.1.below hW.out) h.2.2.2.1 h.2.2.2.2.1 (by have := h.2.1; have := HNS.out; omega)
    rw [h.2.2.2.2.2, hK.out] at this
    exact this
  obtain ⟨LS, hLx, hLS⟩ := HLS.out
  obtain ⟨tw1, tw2⟩ := two_words LS M hLS.2.2.2.2.1 hLS.2.2.2.2.2 HMB.out
  have HW1 : Hid (∀ W, Below w4.heap.size w4 W → Calls Tryz.prog 169 #[.slice b x k, .int .i64 1] W fun r w' => r = .returned (.int .u32 (LS.getD 1 0)) ∧ w' = W) := fun W hW => by
    rw [← hLx]
    exact word_any LS b k 1 W (hLS.2.2.1.below hW)
  have HW0 : Hid (∀ W, Below w4.heap.size w4 W → Calls Tryz.prog 169 #[.slice b x k, .int .i64 0] W fun r w' => r = .returned (.int .u32 (LS.getD 0 0)) ∧ w' = W) := fun W hW => by
    rw [← hLx]
    exact word_any LS b k 0 W (hLS.2.2.1.below hW)
  have hg0 := hLS.2.2.2.1.get 0
  have hg1 := hLS.2.2.2.1.get 1
  obtain ⟨x0, hx0⟩ : ∃ x0, Hid (LS.getD 0 0 = x0) := ⟨_, rfl⟩
  obtain ⟨x1, hx1⟩ : ∃ x1, Hid (LS.getD 1 0 = x1) := ⟨_, rfl⟩
  rw [hx0.out] at HW0 hg0 tw2
  rw [hx1.out] at HW1 hg1 tw2
  have hor := or_words2 x0 x1 hg0 hg1
  rw [tw2] at hor
  have hwx0 : IntKind.u64.wrap (x0 : Int) = (x0 : Int) := by rw [IntKind.wrap_u64]; omega
  have hwx1 : IntKind.u64.wrap (x1 : Int) = (x1 : Int) := by rw [IntKind.wrap_u64]; omega
  have hwx2 : IntKind.u64.wrap ((x1 : Int) * 4294967296) = (x1 : Int) * 4294967296 := by rw [IntKind.wrap_u64]; omega
  clear hb4 r0 r1 r2 s0 s1 s2 HLS hLS tw1 tw2 hg0 hg1 HST HSZ HSZ2 HG HMY
  go_wp2_with fail
  go_region_held3 (fun W => W.cell? ⟨w.heap.size + 1, 2, none⟩ = some (.int .i64 1023) ∧ Hid (Below w4.heap.size w4 W))
    ((refine HK4.out _ ?_; first | assumption | exact HQ4))
    ((go_at_call 171; refine (HS4.out _ (And.right (by assumption))).mono ?_; rintro r w5 ⟨rfl, rfl⟩))
  go_wp2_with fail
  refine (HW1.out _ HQ4.out).mono ?_
  rintro r w6 ⟨rfl, rfl⟩
  go_wp2_with fail
  refine (HW0.out _ HQ4.out).mono ?_
  rintro r w6 ⟨rfl, rfl⟩
  go_wp2_with fail
  refine (HOF.out _ (HR4.out.call HQ4.out).all.2.2.1).mono ?_
  rintro r w7 ⟨rfl, hb7⟩
  have HBE : Hid (Below w.heap.size w w7) := (HR4.out.call HQ4.out).all.2.2.1.trans (hb7.mono (HR4.out.call HQ4.out).all.2.2.1.size)
  clear hb7
  go_wp2
  go_ret2
  exact ⟨rfl, HBE.out⟩
theorem wMag_nought (u : Int) : wMag 0 u = 0 := by unfold wMag; rw [if_pos rfl]
/-- Of 0, by any mode. -/
theorem Round_nought (a : Option Addr) (cap : Nat) (mode : Int) (w : World) (hm1 : 0 ≤ mode) (hm2 : mode ≤ 4) (hT : Tab w) (hg : 3 < w.heap.size) :
    Calls Tryz.prog 101 #[.agg #[.bool false, .slice a 0 cap, .int .i64 0], .int .i64 mode] w fun r w' => r = .returned (.tuple #[.float .f64 0, .int .i64 0]) ∧ Below w.heap.size w w' := by
  have hmag : ∀ W, MagAt W a [] := fun W i hi => absurd hi (Nat.not_lt_zero i)
  have hdig : DigL [] := fun d hd => by cases hd
  have hb0 : bitLen (natL []) = 0 := by decide
  have hb1 : bitLen 0 = 0 := by decide
  refine Round_core false a 0 cap 0 0 mode 0 w (fun W hW => ?_)
  have := round_finG mode hm1 hm2 false [] a cap 0 2 0 (-53) W (hmag W) hdig (fun h => absurd rfl h) (Or.inl ⟨rfl, rfl, rfl⟩) (by decide) (by rw [hb0]; decide) (by
      have := steps_to_leftG (.func (.func (grF mode)) #[] #[]) false [] a cap 53 0 (-53) W (hmag W) hdig (by decide) (by decide) (by decide)
      rw [show natL [] * 2 ^ 53 = 0 from rfl] at this
      exact this) (by decide) (by decide) (by rw [hb1]; decide) (by decide) (by decide) (by decide) (hT.below hg hW) (Nat.lt_of_lt_of_le hg hW.size)
  rw [wMag_nought] at this
  exact this
/-- By the nearest: the number that the dyad stands for, rounded once. -/
theorem Round0_dy (neg : Bool) (a : Option Addr) (n cap N : Nat) (e' z e : Int) (w : World) (h : DyAt w neg a n cap e' z e) (hz : z.natAbs < 2 ^ N) (hN : e + (N : Int) ≤ 2900) (hN2 : N ≤ 6400) (he1 : -3000 ≤ e) (hT : Tab w) (hg : 3 < w.heap.size) :
    Calls Tryz.prog 101 #[.agg #[.bool neg, .slice a n cap, .int .i64 e'], .int .i64 0] w fun r w' => r = .returned (.tuple #[.float .f64 (rndI z e), .int .i64 0]) ∧ Below w.heap.size w w' := by
  obtain ⟨L, rfl, hcap, hm, hv, hmay⟩ := h
  obtain ⟨s1, s2, s3⟩ := hv.size hz hN2 he1 (by omega)
  rcases hv.val with ⟨z0, l0, m0, x0⟩ | ⟨l0, o0, z0, k, hk, hx⟩
  · subst l0 m0 x0
    have e0 : rndI z e = 0 := by rw [z0]; unfold rndI rndM; rw [Int.natAbs_zero, if_pos rfl]; rfl
    rw [e0]
    exact Round_nought a cap 0 w (by decide) (by decide) hT hg
  · have ha : natL L * 2 ^ k = z.natAbs := by rw [← hk, Int.natAbs_mul, intL_abs, Int.natAbs_pow]; rfl
    have h0 : natL L ≠ 0 := by omega
    have hbl := bitLen_mul_pow (natL L) k h0
    have hbz := bitLen_le z.natAbs N hz
    rw [ha] at hbl
    have hbp := bitLen_pos h0
    have hsg : decide (z < 0) = neg := by
      have hp : (0 : Int) < 2 ^ k := Int.pow_pos (by decide)
      have hn : (0 : Int) < (natL L : Int) := by omega
      have hq : (0 : Int) < (natL L : Int) * 2 ^ k := Int.mul_pos hn hp
      rw [← hk]
      unfold intL
      cases neg
      · rw [if_neg (by decide), decide_eq_false_iff_not]; omega
      · rw [if_pos rfl, Int.neg_mul, decide_eq_true_eq]; omega
    have hr : rMag 53 (-1022) 1023 (natL L) e' 0 false = rndM z.natAbs e := by
      have := rndM_sc (natL L) k e'
      rw [ha, show e' - (k : Int) = e by omega] at this
      rw [this]
      unfold rndM
      rw [if_neg h0]
    have he : rndI z e = signN neg (rMag 53 (-1022) 1023 (natL L) e' 0 false) := by unfold rndI; rw [hsg, hr]
    rw [he]
    exact Round_core neg a L.length cap _ e' 0 0 w (fun W hW => round0_any neg L a cap e' W (hm.below hW) hv.1 hv.2.1 hmay o0 s1 s2 (by omega) (by omega) (hT.below hg hW) (Nat.lt_of_lt_of_le hg hW.size))
theorem own_bits (x : Nat) (L : List Nat) (k : Nat) (fx : x % 9223372036854775808 < 9218868437227405312) (h0 : natL L ≠ 0) (ho : natL L % 2 = 1) (h : natL L * 2 ^ k = nv (x % 9223372036854775808)) : bitLen (natL L) ≤ 53 ∧ -1074 + (k : Int) + (bitLen (natL L) : Int) - 1 ≤ 1023 := by
  obtain ⟨r, hr⟩ : ∃ r, x % 9223372036854775808 = r := ⟨_, rfl⟩
  rw [hr] at h fx
  obtain ⟨m, p, hm, hp, hv⟩ : ∃ m p : Nat, m < 9007199254740992 ∧ p ≤ 2045 ∧ nv r = m * 2 ^ p := by
    unfold nv
    by_cases c : r < 4503599627370496
    · exact ⟨r, 0, by omega, by decide, by rw [if_pos c, Nat.pow_zero, Nat.mul_one]⟩
    · exact ⟨4503599627370496 + r % 4503599627370496, r / 4503599627370496 - 1, by omega, by omega, by rw [if_neg c]⟩
  rw [hv] at h
  have hm0 : m ≠ 0 := by
    intro c
    rw [c, Nat.zero_mul] at h
    rcases Nat.mul_eq_zero.1 h with h | h
    · exact h0 h
    · have := Nat.two_pow_pos k; omega
  have e53 : (2 : Nat) ^ 53 = 9007199254740992 := by decide
  have b1 := bitLen_le m 53 (by omega)
  have b2 : bitLen (natL L) + k = bitLen m + p := by rw [← bitLen_mul_pow _ _ h0, h, bitLen_mul_pow _ _ hm0]
  have hkp : p ≤ k := by
    have hz : (natL L : Int) * 2 ^ k = (m : Int) * 2 ^ p := by exact_mod_cast h
    obtain ⟨j, hj, _⟩ := odd_shift (natL L : Int) (m : Int) k p (by omega) hz
    omega
  omega
/-- A number's own dyad, by any mode: that number (0 without its sign). -/
def ownF (x : Nat) : Nat := if x % 9223372036854775808 = 0 then 0 else x
theorem Round_num (x : Nat) (neg : Bool) (a : Option Addr) (n cap : Nat) (e' mode : Int) (w : World) (hx : x < 18446744073709551616) (fx : x % 9223372036854775808 < 9218868437227405312) (h : DyAt w neg a n cap e' (sv x) (-1074)) (hm1 : 0 ≤ mode) (hm2 : mode ≤ 4) (hT : Tab w) (hg : 3 < w.heap.size) :
    Calls Tryz.prog 101 #[.agg #[.bool neg, .slice a n cap, .int .i64 e'], .int .i64 mode] w fun r w' => r = .returned (.tuple #[.float .f64 (ownF x), .int .i64 0]) ∧ Below w.heap.size w w' := by
  obtain ⟨L, rfl, hcap, hm, hv, hmay⟩ := h
  have habs : (sv x).natAbs = nv (x % 9223372036854775808) := by
    unfold sv
    split <;> simp
  rcases hv.val with ⟨z0, l0, m0, x0⟩ | ⟨l0, o0, z0, k, hk, hx'⟩
  · subst l0 m0 x0
    have hx0 : x % 9223372036854775808 = 0 := by
      rw [z0, Int.natAbs_zero] at habs
      apply Classical.byContradiction
      intro c
      have := nv_lt (r := 0) (s := x % 9223372036854775808) (by omega)
      omega
    rw [show ownF x = 0 from if_pos hx0]
    exact Round_nought a cap mode w hm1 hm2 hT hg
  · have ha : natL L * 2 ^ k = (sv x).natAbs := by rw [← hk, Int.natAbs_mul, intL_abs, Int.natAbs_pow]; rfl
    have h0 : natL L ≠ 0 := by omega
    have hx0 : x % 9223372036854775808 ≠ 0 := by
      intro c
      rw [habs, c, nv_zero] at ha
      rcases Nat.mul_eq_zero.1 ha with h | h
      · exact h0 h
      · have := Nat.two_pow_pos k; omega
    obtain ⟨b1, b2⟩ := own_bits x L k fx h0 o0 (by rw [ha, habs])
    obtain ⟨R, r1, r2, r3⟩ := Round_own neg L a cap e' mode w hm hv.1 hv.2.1 hmay h0 b1 (by omega) (by omega) hm1 hm2 hT hg
    have hR : R = x % 9223372036854775808 := by
      apply nv_inj
      rw [r2, ← habs, ← ha]
      congr 2
      omega
    have hsg : signN neg R = x := by
      have hp : (0 : Int) < 2 ^ k := Int.pow_pos (by decide)
      have hn : (0 : Int) < (natL L : Int) := by omega
      have hq : (0 : Int) < (natL L : Int) * 2 ^ k := Int.mul_pos hn hp
      rw [hR]
      unfold signN
      unfold intL at hk
      unfold sv at hk
      cases neg
      · rw [if_neg (by decide)] at hk ⊢
        split at hk <;> omega
      · rw [if_pos rfl] at hk ⊢
        rw [Int.neg_mul] at hk
        split at hk <;> omega
    rw [show ownF x = x from if_neg hx0, ← hsg]
    exact r3
end Go.Proofs.YtehnkgonhgjeiaaGreatDoor
