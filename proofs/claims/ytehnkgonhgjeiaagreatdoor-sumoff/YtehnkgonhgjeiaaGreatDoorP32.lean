
/- What dyad's size, grows and stepsOf do where nothing is cut off, and Round of what is a number. -/
import Derived.Test.YtehnkgonhgjeiaaGreatDoorP27
import Derived.Test.YtehnkgonhgjeiaaGreatDoorP29
import Derived.Test.YtehnkgonhgjeiaaGreatDoorP24
import Derived.Test.YtehnkgonhgjeiaaGreatDoorP15
namespace Go.Proofs.YtehnkgonhgjeiaaGreatDoor
open Go.RowKit Go.IntWalk

set_option maxHeartbeats 1000000 in
theorem size_any (L : List Nat) (a : Option Addr) (cap : Nat) (w : World) (hm : MagAt w a L) (hd : DigL L) (hc : CanL L) (hn : L.length ≤ 1000000) :
    Calls Tryz.prog 171 #[.slice a L.length cap] w fun r w' => r = .returned (.int .i64 (bitLen (natL L))) ∧ w' = w := by
  by_cases h0 : L.length = 0
  · have e : L = [] := List.length_eq_zero_iff.1 h0
    subst e
    show Calls Tryz.prog 171 #[.slice a 0 cap] w _
    clear hm hd hc h0 hn
    go_enter Tryz.func171, Tryz.ntmps171
    go_wp2
    go_ret
    exact ⟨rfl, rfl⟩
  · obtain ⟨k, hk⟩ : ∃ k, L.length = k + 1 := ⟨L.length - 1, by omega⟩
    obtain ⟨b, off, rfl, hb, hcell⟩ := hm k (by omega)
    have hne := hc (fun c => h0 (by rw [c]; rfl))
    rw [hk, Nat.add_sub_cancel] at hne
    rw [bitLen_words L k hk hd hne]
    have hdl := hd.get k
    obtain ⟨d, hdd⟩ : ∃ d, Hid (L.getD k 0 = d) := ⟨_, rfl⟩
    rw [hdd.out] at hcell hdl ⊢
    have hbl := bitLen_le d 32 (by simpa using hdl)
    obtain ⟨l, hl⟩ : ∃ l, Hid (bitLen d = l) := ⟨_, rfl⟩
    have HL : Hid (∀ w : World, Calls Tryz.prog 106 #[.int .u32 d] w fun r w' => r = .returned (.int .i64 l) ∧ w' = w) := fun w => by
      rw [← hl.out]; exact len32_any d w hdl
    rw [hl.out] at hbl ⊢
    obtain ⟨n, hnn⟩ : ∃ n : Nat, Hid (k + 1 = n) := ⟨_, rfl⟩
    have hk1 : (n : Int) - 1 = (k : Int) := by have := hnn.out; omega
    have hwk : IntKind.i64.wrap ((n : Int) - 1) = (k : Int) := by have := hnn.out; rw [IntWalk.i64_in _ (by omega)]; omega
    have hkI : (k : Int) < (n : Int) := by have := hnn.out; omega
    have hkn : k ≤ 1000000 := by omega
    have hnz : ((n : Int) == 0) = false := by have := hnn.out; simp; omega
    rw [hk, hnn.out]
    clear hm hd hc h0 hn hne hdl hk
    go_enter Tryz.func171, Tryz.ntmps171
    go_wp2_with fail
    refine (HL.out _).mono ?_
    rintro r w1 ⟨rfl, rfl⟩
    go_wp2
    go_ret
    exact ⟨ret_int (by omega), rfl⟩
set_option maxHeartbeats 400000 in
theorem dbinary64_any (w : World) :
    Calls Tryz.prog 142 #[] w fun r w' => r = .returned (.agg #[.int .i64 53, .int .i64 (-1074), .int .i64 1023]) ∧ Below w.heap.size w w' := by
  go_enter Tryz.func142, Tryz.ntmps142
  go_wp2
  exact bodyPost_ret (v := .agg #[.int .i64 53, .int .i64 (-1074), .int .i64 1023]) (by simp [results, Tryz.results142, go_sem]) rfl ⟨rfl, (Below.refl _ _).alloc (Nat.le_refl _) _⟩
/-- The function that a mode has. -/
def grF (mode : Int) : FuncId := if mode = 0 then 185 else if mode = 1 then 186 else if mode = 2 then 187 else if mode = 3 then 188 else 189
set_option maxHeartbeats 1000000 in
theorem grows_any (mode : Int) (w : World) (h1 : 0 ≤ mode) (h2 : mode ≤ 4) :
    Calls Tryz.prog 170 #[.int .i64 mode] w fun r w' => r = .returned (.func (.func (grF mode)) #[] #[]) ∧ Below w.heap.size w w' := by
  have hst : ∀ (W : World) (a : Addr) (f : FuncId), (store a (.func (.func f) #[] #[])).run Tryz.prog W = stored Tryz.prog W a (.func (.func f) #[] #[]) .plain := fun W a f => run_store _ _ _ _ _ rfl
  rcases (show mode = 0 ∨ mode = 1 ∨ mode = 2 ∨ mode = 3 ∨ mode = 4 by omega) with rfl | rfl | rfl | rfl | rfl
  all_goals
    clear h1 h2
    go_enter Tryz.func170, Tryz.ntmps170
    go_wp2
    go_ret
    exact ⟨rfl, (Below.refl _ _).alloc (Nat.le_refl _) _⟩
set_option maxRecDepth 4000 in
set_option maxHeartbeats 1000000 in
theorem steps_left (neg : Bool) (L : List Nat) (a : Option Addr) (cap s : Nat) (e u : Int) (g : Value) (w : World) (hm : MagAt w a L) (hd : DigL L) (hn : L.length ≤ 3000) (hu : e - u = (s : Int)) (hs : s ≤ 100000) :
    Calls Tryz.prog 172 #[.agg #[.bool neg, .slice a L.length cap, .int .i64 e], .int .i64 u, g] w fun r w' => MagOk (natL L * 2 ^ s) (L.length + s / 32 + 1) r w' ∧ Below w.heap.size w w' := by
  have HL : Hid (∀ W, Below w.heap.size w W → Calls Tryz.prog 176 #[.slice a L.length cap, .int .i64 (s : Nat)] W fun r w' => MagOk (natL L * 2 ^ s) (L.length + s / 32 + 1) r w' ∧ Below W.heap.size W w') := fun W hW => dleft_nat L a cap s W (hm.below hW) (by omega) (by omega) hd
  obtain ⟨n, hnl⟩ : ∃ n, Hid (L.length = n) := ⟨_, rfl⟩
  rw [hnl.out] at HL hn ⊢
  obtain ⟨D, hD⟩ : ∃ D : Int, Hid (u - e = D) := ⟨_, rfl⟩
  have hD1 : IntKind.i64.wrap (u - e) = D := by have := hD.out; rw [IntWalk.i64_in _ (by omega)]; exact this
  have hD0 : D ≤ 0 := by have := hD.out; omega
  have hDs : -D = (s : Int) := by have := hD.out; omega
  have hDw : IntKind.i64.wrap (-D) = (s : Int) := by rw [IntWalk.i64_in _ (by omega)]; exact hDs
  have hsw : IntKind.i64.wrap (s : Int) = (s : Int) := by rw [IntWalk.i64_in _ (by omega)]
  have HA : Hid (∀ k, Below w.heap.size w ((w.alloc (.cells #[.bool neg, .slice a n cap, .int .i64 e] 41)).drewN k)) := fun k => bl_drewN k ((Below.refl _ _).alloc (Nat.le_refl _) _)
  clear hm hd hn hu hs
  go_enter Tryz.func172, Tryz.ntmps172
  go_wp2_with fail
  go_quiet (fail)
  go_wp2_with fail
  refine (HL.out _ (HA.out _)).mono ?_
  rintro r w1 ⟨⟨L', a', cap', rfl, hr2⟩, hb⟩
  have HE := hid hr2
  have HB : Hid (Below w.heap.size w w1) := (HA.out _).trans (hb.mono (HA.out _).size)
  clear hr2 hb
  go_wp2
  go_ret
  exact ⟨⟨L', a', cap', rfl, HE.out⟩, HB.out⟩
end Go.Proofs.YtehnkgonhgjeiaaGreatDoor

namespace Go.Proofs.YtehnkgonhgjeiaaGreatDoor
open Go.RowKit Go.IntWalk

theorem Of_good (neg : Bool) (s : Nat) (u : Int) (w : World) (h1 : s ≤ 9007199254740992) (h2 : -1074 ≤ u) (h3 : u + (bitLen s : Int) - 1 ≤ 1023) (hT : Tab w) (hs : 3 < w.heap.size) :
    Calls Tryz.prog 128 #[.agg #[.bool neg, .int .u64 s, .int .i64 u]] w fun r w' => r = .returned (.tuple #[.float .f64 (signN neg (wMag s u)), .int .i64 0]) ∧ Below w.heap.size w w' := by
  have h := good_word s u h1 h2 h3
  have he : wErr s u = 0 := by unfold wErr; rw [if_neg h]
  have hw : wWord neg s u = signN neg (wMag s u) := by unfold wWord; rw [if_neg h]
  have := Of_any neg s u w (by omega) hT hs
  rw [hw, he] at this
  exact this
/-- The two words of a number below 2^64. -/
theorem two_words (L : List Nat) (m : Nat) (hC : CanL L) (h : natL L = m) (hm : m < 18446744073709551616) : L.length ≤ 2 ∧ L.getD 0 0 + 4294967296 * L.getD 1 0 = m := by
  have hl : L.length ≤ 2 := by
    apply Classical.byContradiction
    intro hc
    have h0 : L ≠ [] := fun c => by rw [c] at hc; exact hc (Nat.zero_le _)
    have h1 := natL_ge L h0 hC
    have h2 : 4294967296 ^ 2 ≤ 4294967296 ^ (L.length - 1) := Nat.pow_le_pow_right (by decide) (by omega)
    have h3 : (4294967296 : Nat) ^ 2 = 18446744073709551616 := by decide
    omega
  exact ⟨hl, by rw [← natL_two L hl, h]⟩
def FmBox : Obj := .cells #[.int .i64 53, .int .i64 (-1074), .int .i64 1023] 160
theorem func_nil (f : FuncId) (W : World) : (binOp .eql 186 (.func (.func f) #[] #[]) .nilFunc).run Tryz.prog W = .ok (.bool false) W := by
  have h : Op.equal 186 (.func (.func f) #[] #[]) .nilFunc = Op.equalIn (Op.maxDepth - 1 + 1) 186 (.func (.func f) #[] #[]) .nilFunc := rfl
  simp only [binOp, h, Op.equalIn, Sem.run_bind, run_underlying Tryz.underlying186, Result.andThen_ok]
  rfl
def RdW (w : World) (neg : Bool) (a : Option Addr) (n cap : Nat) (e : Int) : World := (w.alloc (DyBox neg a n cap e)).alloc FmBox
/-- What stays while a dyad is rounded. -/
def RdFr (w : World) (neg : Bool) (a : Option Addr) (n cap : Nat) (e : Int) (W : World) : Prop := Below (w.heap.size + 2) (RdW w neg a n cap e) W
def FCells (W : World) (b : Nat) : Prop := W.cell? ⟨b, 0, none⟩ = some (.int .i64 53) ∧ W.cell? ⟨b, 1, none⟩ = some (.int .i64 (-1074)) ∧ W.cell? ⟨b, 2, none⟩ = some (.int .i64 1023)
theorem RdFr.all {w : World} {neg : Bool} {a : Option Addr} {n cap : Nat} {e : Int} {W : World} (h : RdFr w neg a n cap e W) : DCells W w.heap.size neg a n cap e ∧ FCells W (w.heap.size + 1) ∧ Below w.heap.size w W ∧ w.heap.size + 2 ≤ W.heap.size := by
  have hs := h.size
  have h0 : (RdW w neg a n cap e).heap.size = w.heap.size + 2 := by unfold RdW; simp
  rw [h0] at hs
  have h1 : (RdW w neg a n cap e).heap[w.heap.size]? = some (DyBox neg a n cap e) := by
    unfold RdW
    rw [((Below.refl _ (w.alloc (DyBox neg a n cap e))).alloc (Nat.le_refl _) _).block w.heap.size (by simp)]
    exact new_blk w _ _ rfl
  have h2 : (RdW w neg a n cap e).heap[w.heap.size + 1]? = some FmBox := new_blk _ _ _ (by simp)
  have g2 := (h.block _ (show w.heap.size + 1 < w.heap.size + 2 by omega)).trans h2
  refine ⟨dcells_of ((h.block _ (by omega)).trans h1), ⟨by simp [World.cell?, g2, FmBox], by simp [World.cell?, g2, FmBox], by simp [World.cell?, g2, FmBox]⟩, ?_, hs⟩
  exact (show Below w.heap.size w (RdW w neg a n cap e) from ((Below.refl _ _).alloc (Nat.le_refl _) _).alloc (by simp) _).trans (h.mono (by omega))
theorem RdFr.call {w : World} {neg : Bool} {a : Option Addr} {n cap : Nat} {e : Int} {W W' : World} (h : RdFr w neg a n cap e W) (hb : Below W.heap.size W W') : RdFr w neg a n cap e W' := h.trans (hb.mono h.all.2.2.2)
set_option maxRecDepth 4000 in
set_option maxHeartbeats 4000000 in
theorem round_left (neg : Bool) (L : List Nat) (a : Option Addr) (cap s : Nat) (e u mode : Int) (w : World) (hm : MagAt w a L) (hd : DigL L) (hc : CanL L) (hmay : DyMay neg L e) (hn : L.length ≤ 3000) (h0 : natL L ≠ 0) (hu : max (e + (bitLen (natL L) : Int) - 1 - 53 + 1) (-1074) = u) (hs : e - u = (s : Int)) (hsb : s ≤ 60) (hfit : natL L * 2 ^ s ≤ 9007199254740992) (htop : e + (bitLen (natL L) : Int) - 1 ≤ 1023) (he1 : -2000 ≤ e) (he2 : e ≤ 2000) (hm1 : 0 ≤ mode) (hm2 : mode ≤ 4) (hT : Tab w) (hg : 3 < w.heap.size) :
    Calls Tryz.prog 141 #[.agg #[.bool neg, .slice a L.length cap, .int .i64 e], .agg #[.int .i64 53, .int .i64 (-1074), .int .i64 1023], .int .i64 mode] w fun r w' => r = .returned (.tuple #[.float .f64 (signN neg (wMag (natL L * 2 ^ s) u)), .int .i64 0]) ∧ Below w.heap.size w w' := by
  have hbl : bitLen (natL L) ≤ 32 * 3000 := by
    have := natL_lt L hd
    rw [pow32] at this
    have h2 := bitLen_le (natL L) _ this
    omega
  have HG := hid (fun (W : World) => grows_any mode W hm1 hm2)
  have HMY : Hid (∀ W, Below w.heap.size w W → Calls Tryz.prog 113 #[.agg #[.bool neg, .slice a L.length cap, .int .i64 e]] W fun r w' => r = .returned (.bool true) ∧ Below W.heap.size W w') := fun W hW => May_yes neg L a cap e W (hm.below hW) hmay
  have HSZ : Hid (∀ W, Below w.heap.size w W → Calls Tryz.prog 171 #[.slice a L.length cap] W fun r w' => r = .returned (.int .i64 (bitLen (natL L))) ∧ w' = W) := fun W hW => size_any L a cap W (hm.below hW) hd hc (by omega)
  have HST : Hid (∀ W g, Below w.heap.size w W → Calls Tryz.prog 172 #[.agg #[.bool neg, .slice a L.length cap, .int .i64 e], .int .i64 u, g] W fun r w' => (∃ x b k, r = .returned (.slice b x k) ∧ Hid (∃ LS, LS.length = x ∧ MagIs (natL L * 2 ^ s) (L.length + s / 32 + 1) LS b k w')) ∧ Below W.heap.size W w') := fun W g hW => by
    refine (steps_left neg L a cap s e u g W (hm.below hW) hd hn hs (by omega)).mono ?_
    rintro r w' ⟨⟨LS, b, k, rfl, hok⟩, hb⟩
    exact ⟨⟨LS.length, b, k, rfl, ⟨LS, rfl, hok⟩⟩, hb⟩
  have hlen2 := bitLen_mul_pow (natL L) s h0
  have HOF : Hid (∀ W, Below w.heap.size w W → Calls Tryz.prog 128 #[.agg #[.bool neg, .int .u64 (natL L * 2 ^ s : Nat), .int .i64 u]] W fun r w' => r = .returned (.tuple #[.float .f64 (signN neg (wMag (natL L * 2 ^ s) u)), .int .i64 0]) ∧ Below W.heap.size W w') := fun W hW => Of_good neg (natL L * 2 ^ s) u W hfit (by omega) (by rw [hlen2]; omega) (hT.below hg hW) (Nat.lt_of_lt_of_le hg hW.size)
  have hbp := bitLen_pos h0
  obtain ⟨n, hnl⟩ : ∃ n, Hid (L.length = n) := ⟨_, rfl⟩
  obtain ⟨l, hl⟩ : ∃ l, Hid (bitLen (natL L) = l) := ⟨_, rfl⟩
  obtain ⟨M, hM⟩ : ∃ M, Hid (natL L * 2 ^ s = M) := ⟨_, rfl⟩
  rw [hnl.out] at HMY HSZ HST ⊢
  rw [hl.out] at HSZ hu hlen2 hbp htop hbl
  rw [hM.out] at HST HOF hlen2 hfit ⊢
  have HMB := hid (show M < 18446744073709551616 by omega)
  have HLN := hid hlen2
  obtain ⟨T, hTT⟩ : ∃ T, Hid (e + (l : Int) - 1 = T) := ⟨_, rfl⟩
  have hT0 : IntKind.i64.wrap (e + (l : Int)) = e + (l : Int) := by rw [IntWalk.i64_in _ (by omega)]
  have hT1 : IntKind.i64.wrap (e + (l : Int) - 1) = T := by have := hTT.out; rw [IntWalk.i64_in _ (by omega)]; exact this
  have hT2 : e + (l : Int) - 1 = T := hTT.out
  have hTb1 : -3000 ≤ T := by have := hTT.out; omega
  have hTb2 : T ≤ 1023 := by have := hTT.out; omega
  rw [hTT.out] at hu
  have hu1 : max (T - 53 + 1) (-1074) = u := hu
  have hub : -1074 ≤ u := by omega
  have hub2 : u ≤ 3000 := by omega
  obtain ⟨K, hK⟩ : ∃ K : Nat, Hid (l + s = K) := ⟨_, rfl⟩
  rw [hK.out] at HLN
  have hK1 : IntKind.i64.wrap (u + (K : Int)) = u + (K : Int) := by have := hK.out; rw [IntWalk.i64_in _ (by omega)]
  have hK3 : u + (K : Int) - 1 = T := by have := hK.out; have := hTT.out; omega
  have hK2 : IntKind.i64.wrap (u + (K : Int) - 1) = T := by have := hK.out; rw [IntWalk.i64_in _ (by omega)]; exact hK3
  have hTw : IntKind.i64.wrap T = T := by rw [IntWalk.i64_in _ (by omega)]
  have hgtr : ¬ (1023 : Int) < T := by omega
  have HK : Hid (∀ W, Hid (RdFr w neg a n cap e W) → ((W.cell? ⟨w.heap.size, 0, none⟩ = some (.bool neg) ∧ W.cell? ⟨w.heap.size, 1, none⟩ = some (.slice a n cap) ∧ W.cell? ⟨w.heap.size, 2, none⟩ = some (.int .i64 e)) ∧ (W.cell? ⟨w.heap.size + 1, 0, none⟩ = some (.int .i64 53) ∧ W.cell? ⟨w.heap.size + 1, 1, none⟩ = some (.int .i64 (-1074)) ∧ W.cell? ⟨w.heap.size + 1, 2, none⟩ = some (.int .i64 1023))) ∧ Hid (RdFr w neg a n cap e W)) := fun W h => ⟨⟨h.out.all.1, h.out.all.2.1⟩, h⟩
  have HR0 : Hid (RdFr w neg a n cap e (RdW w neg a n cap e)) := Below.refl _ _
  obtain ⟨W0, hW0⟩ : ∃ W0, Hid (RdW w neg a n cap e = W0) := ⟨_, rfl⟩
  have hW0' : RdW w neg a n cap e = W0 := hW0.out
  rw [hW0'] at HR0
  unfold RdW DyBox FmBox at hW0'
  have HU := hid hu
  have HNS := hid (show n ≤ 3000 ∧ s ≤ 60 from ⟨by have := hnl.out; omega, hsb⟩)
  clear hm hd hc hmay hn h0 hu hs hsb hfit htop he1 he2 hm1 hm2 hT hg hbl hlen2
  go_enter Tryz.func141, Tryz.ntmps141
  go_wp2_with fail
  refine (HG.out _).mono ?_
  rintro r w1 ⟨rfl, hb1⟩
  have HR1 : Hid (RdFr w neg a n cap e w1) := HR0.out.call hb1
  obtain ⟨⟨⟨p0, p1, p2⟩, ⟨q0, q1, q2⟩⟩, _⟩ := HK.out _ HR1
  clear hb1
  go_wp2_with fail
  refine (HMY.out _ HR1.out.all.2.2.1).mono ?_
  rintro r w2 ⟨rfl, hb2⟩
  have HR2 : Hid (RdFr w neg a n cap e w2) := HR1.out.call hb2
  obtain ⟨⟨⟨r0, r1, r2⟩, ⟨s0, s1, s2⟩⟩, _⟩ := HK.out _ HR2
  clear hb2 p0 p1 p2 q0 q1 q2
  have hfn := func_nil (grF mode)
  have HQ0 : Hid (RdFr w neg a n cap e w2.drew) := HR2.out.call (Below.refl _ _).drew
  have HSZ2 : Hid (∀ W, Hid (RdFr w neg a n cap e W) → Calls Tryz.prog 171 #[.slice a n cap] W fun r w' => r = .returned (.int .i64 l) ∧ w' = W) := fun W hW => HSZ.out W hW.out.all.2.2.1
  go_wp2_with fail
  go_region_held3 (fun W => ((W.cell? ⟨w.heap.size, 0, none⟩ = some (.bool neg) ∧ W.cell? ⟨w.heap.size, 1, none⟩ = some (.slice a n cap) ∧ W.cell? ⟨w.heap.size, 2, none⟩ = some (.int .i64 e)) ∧ (W.cell? ⟨w.heap.size + 1, 0, none⟩ = some (.int .i64 53) ∧ W.cell? ⟨w.heap.size + 1, 1, none⟩ = some (.int .i64 (-1074)) ∧ W.cell? ⟨w.heap.size + 1, 2, none⟩ = some (.int .i64 1023))) ∧ Hid (RdFr w neg a n cap e W))
    ((refine HK.out _ ?_; first | assumption | exact HQ0))
    ((go_at_call 171; refine (HSZ2.out _ (And.right (by assumption))).mono ?_; rintro r w3 ⟨rfl, rfl⟩))
  go_wp2_with fail
  refine (HST.out _ _ (HQ0.out.all.2.2.1)).mono ?_
  rintro r w4 ⟨⟨x, b, k, rfl, HLS⟩, hb4⟩
  have HR4 : Hid (RdFr w neg a n cap e w4) := HQ0.out.call hb4
  obtain ⟨⟨⟨t0, t1, t2⟩, ⟨u0, u1, u2⟩⟩, _⟩ := HK.out _ HR4
  have HK4 : Hid (∀ W, Hid (Below w4.heap.size w4 W) → W.cell? ⟨w.heap.size + 1, 2, none⟩ = some (.int .i64 1023) ∧ Hid (Below w4.heap.size w4 W)) := fun W hW => ⟨(HK.out W (HR4.out.call hW.out)).1.2.2.2, hW⟩
  have HQ4 : Hid (Below w4.heap.size w4 w4.drew) := (Below.refl _ _).drew
  have HS4 : Hid (∀ W, Hid (Below w4.heap.size w4 W) → Calls Tryz.prog 171 #[.slice b x k] W fun r w' => r = .returned (.int .i64 (K : Nat)) ∧ w' = W) := fun W hW => by
    obtain ⟨LS, rfl, h⟩ := HLS.out
    have := size_any LS b k W (h.2.2.1.below hW.out) h.2.2.2.1 h.2.2.2.2.1 (by have := h.2.1; have := HNS.out; omega)
    rw [h.2.2.2.2.2, HLN.out] at this
    exact this
  obtain ⟨LS, hLx, hLS⟩ := HLS.out
  obtain ⟨tw1, tw2⟩ := two_words LS M hLS.2.2.2.2.1 hLS.2.2.2.2.2 HMB.out
  have HW1 : Hid (∀ W, Below w4.heap.size w4 W → Calls Tryz.prog 169 #[.slice b x k, .int .i64 1] W fun r w' => r = .returned (.int .u32 (LS.getD 1 0)) ∧ w' = W) := fun W hW => by
    rw [← hLx]
    exact word_any LS b k 1 W (hLS.2.2.1.below hW)
  have HW0 : Hid (∀ W, Below w4.heap.size w4 W → Calls Tryz.prog 169 #[.slice b x k, .int .i64 0] W fun r w' => r = .returned (.int .u32 (LS.getD 0 0)) ∧ w' = W) := fun W hW => by
    rw [← hLx]
    exact word_any LS b k 0 W (hLS.2.2.1.below hW)
  have hg0 := hLS.2.2.2.1.get 0
  have hg1 := hLS.2.2.2.1.get 1
  obtain ⟨x0, hx0⟩ : ∃ x0, Hid (LS.getD 0 0 = x0) := ⟨_, rfl⟩
  obtain ⟨x1, hx1⟩ : ∃ x1, Hid (LS.getD 1 0 = x1) := ⟨_, rfl⟩
  rw [hx0.out] at HW0 hg0 tw2
  rw [hx1.out] at HW1 hg1 tw2
  have hor := or_words2 x0 x1 hg0 hg1
  rw [tw2] at hor
  have hwx0 : IntKind.u64.wrap (x0 : Int) = (x0 : Int) := by rw [IntKind.wrap_u64]; omega
  have hwx1 : IntKind.u64.wrap (x1 : Int) = (x1 : Int) := by rw [IntKind.wrap_u64]; omega
  have hwx2 : IntKind.u64.wrap ((x1 : Int) * 4294967296) = (x1 : Int) * 4294967296 := by rw [IntKind.wrap_u64]; omega
  clear hb4 r0 r1 r2 s0 s1 s2 HLS hLS tw1 tw2 hg0 hg1 HST HSZ HSZ2 HG HMY
  go_wp2_with fail
  go_region_held3 (fun W => W.cell? ⟨w.heap.size + 1, 2, none⟩ = some (.int .i64 1023) ∧ Hid (Below w4.heap.size w4 W))
    ((refine HK4.out _ ?_; first | assumption | exact HQ4))
    ((go_at_call 171; refine (HS4.out _ (And.right (by assumption))).mono ?_; rintro r w5 ⟨rfl, rfl⟩))
  go_wp2_with fail
  refine (HW1.out _ HQ4.out).mono ?_
  rintro r w6 ⟨rfl, rfl⟩
  go_wp2_with fail
  refine (HW0.out _ HQ4.out).mono ?_
  rintro r w6 ⟨rfl, rfl⟩
  go_wp2_with fail
  refine (HOF.out _ (HR4.out.call HQ4.out).all.2.2.1).mono ?_
  rintro r w7 ⟨rfl, hb7⟩
  have HBE : Hid (Below w.heap.size w w7) := (HR4.out.call HQ4.out).all.2.2.1.trans (hb7.mono (HR4.out.call HQ4.out).all.2.2.1.size)
  clear hb7
  go_wp2
  go_ret2
  exact ⟨rfl, HBE.out⟩
set_option maxRecDepth 4000 in
set_option maxHeartbeats 1000000 in
theorem Round_core (neg : Bool) (a : Option Addr) (n cap X : Nat) (e mode Y : Int) (w : World)
    (h : ∀ W, Below w.heap.size w W → Calls Tryz.prog 141 #[.agg #[.bool neg, .slice a n cap, .int .i64 e], .agg #[.int .i64 53, .int .i64 (-1074), .int .i64 1023], .int .i64 mode] W fun r w' => r = .returned (.tuple #[.float .f64 X, .int .i64 Y]) ∧ Below W.heap.size W w') :
    Calls Tryz.prog 101 #[.agg #[.bool neg, .slice a n cap, .int .i64 e], .int .i64 mode] w fun r w' => r = .returned (.tuple #[.float .f64 X, .int .i64 Y]) ∧ Below w.heap.size w w' := by
  obtain ⟨W0, hW0⟩ : ∃ W0, Hid (w.alloc (DyBox neg a n cap e) = W0) := ⟨_, rfl⟩
  have hW0' : w.alloc (DyBox neg a n cap e) = W0 := hW0.out
  unfold DyBox at hW0'
  have HB0 : Hid (Below w.heap.size w W0) := by rw [← hW0.out]; exact (Below.refl _ _).alloc (Nat.le_refl _) _
  have HS0 := hid (show W0.heap.size = w.heap.size + 1 by rw [← hW0.out]; simp)
  have HC0 : Hid (W0.heap[w.heap.size]? = some (DyBox neg a n cap e)) := by
    show W0.heap[w.heap.size]? = _
    rw [← hW0.out]
    exact new_blk w _ _ rfl
  have HK : Hid (∀ W, Hid (Below W0.heap.size W0 W) → (W.cell? ⟨w.heap.size, 0, none⟩ = some (.bool neg) ∧ W.cell? ⟨w.heap.size, 1, none⟩ = some (.slice a n cap) ∧ W.cell? ⟨w.heap.size, 2, none⟩ = some (.int .i64 e)) ∧ Hid (Below W0.heap.size W0 W)) := fun W hW => ⟨dcells_of ((hW.out.block _ (by rw [HS0.out]; omega)).trans HC0.out), hW⟩
  have HQ0 : Hid (Below W0.heap.size W0 W0.drew) := (Below.refl _ _).drew
  have HB : Hid (∀ W, Hid (Below W0.heap.size W0 W) → Calls Tryz.prog 142 #[] W fun r w' => r = .returned (.agg #[.int .i64 53, .int .i64 (-1074), .int .i64 1023]) ∧ Hid (Below W0.heap.size W0 w')) := fun W hW => by
    refine (dbinary64_any W).mono ?_
    rintro r w' ⟨rfl, hb⟩
    exact ⟨rfl, hW.out.trans (hb.mono hW.out.size)⟩
  have HR : Hid (∀ W, Hid (Below W0.heap.size W0 W) → Calls Tryz.prog 141 #[.agg #[.bool neg, .slice a n cap, .int .i64 e], .agg #[.int .i64 53, .int .i64 (-1074), .int .i64 1023], .int .i64 mode] W fun r w' => r = .returned (.tuple #[.float .f64 X, .int .i64 Y]) ∧ Hid (Below W0.heap.size W0 w')) := fun W hW => by
    refine (h W (HB0.out.trans (hW.out.mono HB0.out.size))).mono ?_
    rintro r w' ⟨rfl, hb⟩
    exact ⟨rfl, hW.out.trans (hb.mono hW.out.size)⟩
  clear h
  go_enter Tryz.func101, Tryz.ntmps101
  go_wp2_with fail
  go_region_held3 (fun W => (W.cell? ⟨w.heap.size, 0, none⟩ = some (.bool neg) ∧ W.cell? ⟨w.heap.size, 1, none⟩ = some (.slice a n cap) ∧ W.cell? ⟨w.heap.size, 2, none⟩ = some (.int .i64 e)) ∧ Hid (Below W0.heap.size W0 W))
    ((refine HK.out _ ?_; first | assumption | exact HQ0))
    (first
      | (go_at_call 142; refine (HB.out _ (And.right (by assumption))).mono ?_; rintro r w3 ⟨rfl, HF3⟩)
      | (go_at_call 141; refine (HR.out _ (And.right (by assumption))).mono ?_; rintro r w4 ⟨rfl, HF4⟩))
  all_goals go_wp2
  all_goals go_ret2
  all_goals exact ⟨rfl, HB0.out.trans (HF4.out.mono HB0.out.size)⟩
/-- Round of a number's dyad, by any mode, is that number. -/
theorem Round_own (neg : Bool) (L : List Nat) (a : Option Addr) (cap : Nat) (e mode : Int) (w : World) (hm : MagAt w a L) (hd : DigL L) (hc : CanL L) (hmay : DyMay neg L e) (h0 : natL L ≠ 0) (hb : bitLen (natL L) ≤ 53) (he : -1074 ≤ e) (htop : e + (bitLen (natL L) : Int) - 1 ≤ 1023) (hm1 : 0 ≤ mode) (hm2 : mode ≤ 4) (hT : Tab w) (hg : 3 < w.heap.size) :
    ∃ R, R < 9218868437227405312 ∧ nv R = natL L * 2 ^ (e + 1074).toNat ∧ Calls Tryz.prog 101 #[.agg #[.bool neg, .slice a L.length cap, .int .i64 e], .int .i64 mode] w fun r w' => r = .returned (.tuple #[.float .f64 (signN neg R), .int .i64 0]) ∧ Below w.heap.size w w' := by
  have hbp := bitLen_pos h0
  obtain ⟨u, hu⟩ : ∃ u, max (e + (bitLen (natL L) : Int) - 1 - 53 + 1) (-1074) = u := ⟨_, rfl⟩
  obtain ⟨s, hs⟩ := Int.eq_ofNat_of_zero_le (show 0 ≤ e - u by omega)
  have hlen := bitLen_mul_pow (natL L) s h0
  have hlt : natL L * 2 ^ s < 2 ^ 53 := Nat.lt_of_lt_of_le (bitLen_hi _) (Nat.pow_le_pow_right (by decide) (by rw [hlen]; omega))
  have h53 : (2 : Nat) ^ 53 = 9007199254740992 := by decide
  have hll : L.length ≤ 3000 := by
    rcases hmay with ⟨c, _⟩ | ⟨_, _, _, hl, _⟩
    · rw [c] at h0; exact absurd rfl h0
    · omega
  obtain ⟨g1, g2⟩ := good_val (natL L * 2 ^ s) u (Nat.mul_ne_zero h0 (Nat.pos_iff_ne_zero.1 (Nat.two_pow_pos s))) (by omega) (by omega) (by rw [hlen]; omega)
  refine ⟨wMag (natL L * 2 ^ s) u, g1, ?_, Round_core neg a L.length cap _ e mode 0 w (fun W hW => round_left neg L a cap s e u mode W (hm.below hW) hd hc hmay hll h0 hu hs (by omega) (by omega) htop (by omega) (by omega) hm1 hm2 (hT.below hg hW) (Nat.lt_of_lt_of_le hg hW.size))⟩
  rw [g2, Nat.mul_assoc, ← Nat.pow_add]
  congr 2
  omega
end Go.Proofs.YtehnkgonhgjeiaaGreatDoor
