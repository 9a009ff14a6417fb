
/- Chapter 3's first examples hold. -/
import Derived.Test.YtehnkgonhgjeiaaGreatDoorP32
namespace Go.Proofs.YtehnkgonhgjeiaaGreatDoor
open Go.RowKit Go.IntWalk

theorem at_half : pNeg 4602678819172646912 = false ∧ pMant 4602678819172646912 = 1 ∧ pExp 4602678819172646912 = -1 ∧ pErr 4602678819172646912 = 0 := by decide +kernel
theorem at_one : wMag (natL [1] * 2 ^ 52) (-52) = 4607182418800017408 ∧ bitLen (natL [1]) = 1 ∧ (FloatKind.f64.format.order 4607182418800017408 4607182418800017408 == some .eq) = true := by decide +kernel
theorem dig1 : DigL [1] := fun d hd => by simp at hd; rw [hd]; decide
theorem can1 : CanL [1] := fun _ => by decide
theorem dyv_one (k : Nat) : DyV false [1] (k : Int) (1 * 2 ^ k) 0 := ⟨dig1, can1, Or.inr ⟨by decide, k, rfl, by omega⟩⟩
theorem may1 (e : Int) (h1 : -100000 ≤ e) (h2 : e ≤ 100000) : DyMay false [1] e := Or.inr ⟨by decide, by decide, can1, by decide, h1, h2⟩
theorem Of_half (w : World) (hT : Tab w) (hg : 3 < w.heap.size) (hT3 : Tab32 w) (hs : 2 < w.heap.size) :
    Calls Tryz.prog 62 #[.float .f64 4602678819172646912] w fun r w' => DyOut 1 (-1) w.heap.size r w' ∧ Below w.heap.size w w' := by
  obtain ⟨a1, a2, a3, a4⟩ := at_half
  have := Of_parts 4602678819172646912 1 false (-1) w (by decide) (by decide) (by decide) hT3 hs (fun W hW => by
    have := Parts_any 4602678819172646912 W (by decide) (hT.below hg hW) (Nat.lt_of_lt_of_le hg hW.size)
    rw [a1, a2, a3, a4] at this
    exact this)
  exact this
/-- The dyad of 1. -/
theorem Round_one (neg : Bool) (a : Option Addr) (n cap : Nat) (e : Int) (w : World) (h : DyAt w neg a n cap e 2 (-1)) (hT : Tab w) (hg : 3 < w.heap.size) :
    Calls Tryz.prog 101 #[.agg #[.bool neg, .slice a n cap, .int .i64 e], .int .i64 0] w fun r w' => r = .returned (.tuple #[.float .f64 4607182418800017408, .int .i64 0]) ∧ Below w.heap.size w w' := by
  obtain ⟨L, rfl, h1, h2, h3, h4⟩ := h
  have hv : DyV false [1] 0 2 (-1) := ⟨dig1, can1, Or.inr ⟨by decide, 1, rfl, rfl⟩⟩
  obtain ⟨rfl, rfl, rfl⟩ := h3.uniq hv
  obtain ⟨b1, b2, _⟩ := at_one
  have := Round_core false a 1 cap _ 0 0 0 w (fun W hW => round_left false [1] a cap 52 0 (-52) 0 W (h2.below hW) dig1 can1 h4 (by decide) (by decide) (by rw [b2]; decide) (by decide) (by decide) (by decide) (by rw [b2]; decide) (by decide) (by decide) (by decide) (by decide) (hT.below hg hW) (Nat.lt_of_lt_of_le hg hW.size))
  rw [b1] at this
  exact this
end Go.Proofs.YtehnkgonhgjeiaaGreatDoor

namespace Go.Proofs.YtehnkgonhgjeiaaGreatDoor
open Go.RowKit Go.IntWalk

/-- A number's bit lies in one of its words. -/
theorem natL_bit (L : List Nat) (hD : DigL L) (q s : Nat) (hs : s < 32) : natL L / 2 ^ (32 * q + s) % 2 = L.getD q 0 / 2 ^ s % 2 := by
  rw [Nat.pow_add, ← pow32, ← Nat.div_div_eq_div_mul, natL_div L hD, natL_drop L q]
  obtain ⟨r, hr⟩ : ∃ r, natL (L.drop (q + 1)) = r := ⟨_, rfl⟩
  obtain ⟨d, hd⟩ : ∃ d, L.getD q 0 = d := ⟨_, rfl⟩
  rw [hr, hd]
  have h32 : (4294967296 : Nat) = 2 ^ s * (2 * 2 ^ (31 - s)) := by
    rw [show 2 * 2 ^ (31 - s) = 2 ^ (32 - s) by rw [show 32 - s = (31 - s) + 1 by omega, Nat.pow_succ, Nat.mul_comm], ← Nat.pow_add, show s + (32 - s) = 32 by omega]
  have e : d + 4294967296 * r = d + 2 ^ s * (2 * (2 ^ (31 - s) * r)) := by
    conv => lhs; rw [h32]
    rw [Nat.mul_assoc, Nat.mul_assoc]
  rw [e, Nat.add_mul_div_left _ _ (Nat.two_pow_pos s)]
  omega
theorem and1 (d : Nat) (hd : d < 4294967296) : bits .and .u32 (d : Int) 1 = ((d % 2 : Nat) : Int) := by
  rw [show (1 : Int) = ((1 : Nat) : Int) from rfl, u32_and_nat d 1 hd (by decide), Nat.and_one_is_mod]
theorem bit_is (x s : Nat) (hx : x < 4294967296) : (bits .and .u32 ((x : Int) / 2 ^ s) 1 == 1) = decide (x / 2 ^ s % 2 = 1) := by
  rw [show ((x : Int) / 2 ^ s) = ((x / 2 ^ s : Nat) : Int) by rw [Int.natCast_ediv, Int.natCast_pow]; rfl, and1 _ (Nat.lt_of_le_of_lt (Nat.div_le_self _ _) hx)]
  by_cases h : x / 2 ^ s % 2 = 1
  · rw [h]; simp
  · rw [show x / 2 ^ s % 2 = 0 by omega]; simp
set_option maxRecDepth 4000 in
set_option maxHeartbeats 1000000 in
theorem bit_any (L : List Nat) (a : Option Addr) (cap q s : Nat) (w : World) (hm : MagAt w a L) (hd : DigL L) (hs : s < 32) (hq : q ≤ 1000000) :
    Calls Tryz.prog 190 #[.slice a L.length cap, .int .i64 ((32 * q + s : Nat) : Int)] w fun r w' => r = .returned (.bool (decide (natL L / 2 ^ (32 * q + s) % 2 = 1))) ∧ w' = w := by
  rw [natL_bit L hd q s hs]
  obtain ⟨N, hN⟩ : ∃ N : Nat, Hid (32 * q + s = N) := ⟨_, rfl⟩
  rw [hN.out]
  have hdiv : (N : Int) / 32 = (q : Int) := by have := hN.out; omega
  have hmod : (N : Int) % 32 = (s : Int) := by have := hN.out; omega
  have hN0 : (0 : Int) ≤ (N : Int) := by omega
  have hNb : (N : Int) ≤ 40000000 := by have := hN.out; omega
  have hsI : (s : Int) < 32 := by omega
  have hs0 : (0 : Int) ≤ (s : Int) := by omega
  have HG := hid (show ∀ k, ¬ k < L.length → L.getD k 0 = 0 from fun k hk => by simp [List.getD, List.getElem?_eq_none (Nat.le_of_not_lt hk)])
  have HM := hid hm
  obtain ⟨n, hnl⟩ : ∃ n, Hid (L.length = n) := ⟨_, rfl⟩
  rw [hnl.out] at HG ⊢
  clear hm
  by_cases hlt : q < n
  · obtain ⟨b, off, rfl, hb, hc⟩ := HM.out q (by rw [hnl.out]; exact hlt)
    have hx := hd.get q
    obtain ⟨x, hxx⟩ : ∃ x, Hid (L.getD q 0 = x) := ⟨_, rfl⟩
    rw [hxx.out] at hc hx ⊢
    have hqI : (q : Int) < (n : Int) := by omega
    have hq0 : (0 : Int) ≤ (q : Int) := by omega
    clear HG hd hs
    go_enter Tryz.func190, Tryz.ntmps190
    go_wp2
    rw [bit_is x s hx]
    go_ret
    exact ⟨rfl, rfl⟩
  · rw [HG.out q hlt]
    have hqI : ¬ (q : Int) < (n : Int) := by omega
    clear HG hd hs HM
    go_enter Tryz.func190, Tryz.ntmps190
    go_wp2
    go_ret
    exact ⟨by simp, rfl⟩
/-- What is left over where n bits are cut off an odd number: 0 little, 1 a half, 2 more. -/
def restV (m n : Nat) : Nat := if n = 1 then 1 else if m / 2 ^ (n - 1) % 2 = 1 then 2 else 0
set_option maxHeartbeats 1000000 in
theorem restOf_any (L : List Nat) (a : Option Addr) (cap n : Nat) (w : World) (hm : MagAt w a L) (hd : DigL L) (h1 : 1 ≤ n) (h2 : n ≤ 30000000) :
    Calls Tryz.prog 191 #[.slice a L.length cap, .int .i64 n] w fun r w' => r = .returned (.int .i64 (restV (natL L) n)) ∧ w' = w := by
  have HB := hid (bit_any L a cap ((n - 1) / 32) ((n - 1) % 32) w hm hd (Nat.mod_lt _ (by decide)) (by omega))
  rw [show 32 * ((n - 1) / 32) + (n - 1) % 32 = n - 1 by omega] at HB
  by_cases hn : n = 1
  · have e : restV (natL L) n = 1 := by unfold restV; rw [if_pos hn]
    rw [e]
    subst hn
    clear HB hm hd h1 h2
    go_enter Tryz.func191, Tryz.ntmps191
    go_wp2
    go_ret
    exact ⟨rfl, rfl⟩
  · have hnI : ((n : Int) == 1) = false := by simp; omega
    have hI1 : (n : Int) - 1 = ((n - 1 : Nat) : Int) := by omega
    have hIw : IntKind.i64.wrap ((n : Int) - 1) = ((n - 1 : Nat) : Int) := by rw [IntWalk.i64_in _ (by omega)]; omega
    have e : restV (natL L) n = if natL L / 2 ^ (n - 1) % 2 = 1 then 2 else 0 := by unfold restV; rw [if_neg hn]
    rw [e]
    obtain ⟨k, hk⟩ : ∃ k, Hid (n - 1 = k) := ⟨_, rfl⟩
    rw [hk.out] at HB hI1 hIw ⊢
    have hkb : (k : Int) ≤ 30000000 := by have := hk.out; omega
    by_cases hb : natL L / 2 ^ k % 2 = 1
    · rw [if_pos hb]
      rw [decide_eq_true hb] at HB
      clear hm hd hb
      go_enter Tryz.func191, Tryz.ntmps191
      go_wp2_with fail
      refine HB.out.mono ?_
      rintro r w1 ⟨rfl, rfl⟩
      go_wp2
      go_ret
      exact ⟨rfl, rfl⟩
    · rw [if_neg hb]
      rw [decide_eq_false hb] at HB
      clear hm hd hb
      go_enter Tryz.func191, Tryz.ntmps191
      go_wp2_with fail
      refine HB.out.mono ?_
      rintro r w1 ⟨rfl, rfl⟩
      go_wp2
      go_ret
      exact ⟨rfl, rfl⟩
end Go.Proofs.YtehnkgonhgjeiaaGreatDoor

namespace Go.Proofs.YtehnkgonhgjeiaaGreatDoor
open Go.RowKit Go.IntWalk

set_option maxHeartbeats 1000000 in
theorem near_any (neg odd : Bool) (l : Nat) (w : World) (hl : l ≤ 2) :
    Calls Tryz.prog 185 #[.agg #[.bool neg, .bool odd, .int .i64 l]] w fun r w' => r = .returned (.bool (l == 2 || l == 1 && odd)) ∧ Below w.heap.size w w' := by
  rcases (show l = 0 ∨ l = 1 ∨ l = 2 by omega) with rfl | rfl | rfl
  all_goals
    clear hl
    go_enter Tryz.func185, Tryz.ntmps185
    go_wp2
    go_ret
    exact ⟨by simp, (Below.refl _ _).alloc (Nat.le_refl _) _⟩
set_option maxRecDepth 4000 in
set_option maxHeartbeats 4000000 in
theorem steps_near (neg : Bool) (L : List Nat) (a : Option Addr) (cap n : Nat) (e u : Int) (w : World) (hm : MagAt w a L) (hd : DigL L) (hn : L.length ≤ 3000) (hl0 : 1 ≤ L.length) (hu : u - e = (n : Int)) (h1 : 1 ≤ n) (h2 : n ≤ 200000) :
    Calls Tryz.prog 172 #[.agg #[.bool neg, .slice a L.length cap, .int .i64 e], .int .i64 u, .func (.func 185) #[] #[]] w fun r w' => MagOk (natL L / 2 ^ n + (if restV (natL L) n = 2 ∨ restV (natL L) n = 1 ∧ natL L / 2 ^ n % 2 = 1 then 1 else 0)) (L.length + 1) r w' ∧ Below w.heap.size w w' := by
  have HR : Hid (∀ W, Below w.heap.size w W → Calls Tryz.prog 148 #[.slice a L.length cap, .int .i64 (n : Nat)] W fun r w' => MagNew (natL L / 2 ^ n) L.length W.heap.size r w' ∧ Below W.heap.size W w') := fun W hW => by
    have := dright_any L a cap (n / 32) (n % 32) W (hm.below hW) (Nat.mod_lt _ (by decide)) (by omega) (by omega) hd
    rw [show 32 * (n / 32) + n % 32 = n by omega] at this
    exact this
  have HRO : Hid (∀ W, Below w.heap.size w W → Calls Tryz.prog 191 #[.slice a L.length cap, .int .i64 (n : Nat)] W fun r w' => r = .returned (.int .i64 (restV (natL L) n)) ∧ w' = W) := fun W hW => restOf_any L a cap n W (hm.below hW) hd h1 (by omega)
  have HM := hid hm
  have HD := hid hd
  obtain ⟨l, hl⟩ : ∃ l, Hid (L.length = l) := ⟨_, rfl⟩
  rw [hl.out] at hn hl0 HR HRO ⊢
  obtain ⟨rv, hrv⟩ : ∃ r, Hid (restV (natL L) n = r) := ⟨_, rfl⟩
  have hrl : rv ≤ 2 := by rw [← hrv.out]; unfold restV; split <;> (try split) <;> omega
  rw [hrv.out] at HRO ⊢
  obtain ⟨v, hv⟩ : ∃ v, Hid (natL L / 2 ^ n = v) := ⟨_, rfl⟩
  rw [hv.out] at HR ⊢
  have hw : IntKind.i64.wrap (u - e) = (n : Int) := by rw [IntWalk.i64_in _ (by omega)]; exact hu
  have hwn : IntKind.i64.wrap (n : Int) = (n : Int) := by rw [IntWalk.i64_in _ (by omega)]
  have hn0 : ¬ (n : Int) ≤ 0 := by omega
  have HA : Hid (∀ k, Below w.heap.size w ((w.alloc (.cells #[.bool neg, .slice a l cap, .int .i64 e] 41)).drewN k)) := fun k => bl_drewN k ((Below.refl _ _).alloc (Nat.le_refl _) _)
  clear hm hd h1 h2
  obtain ⟨odd, hodd⟩ : ∃ b, Hid (decide (v % 2 = 1) = b) := ⟨_, rfl⟩
  obtain ⟨g, hg⟩ : ∃ g, Hid ((rv == 2 || rv == 1 && odd) = g) := ⟨_, rfl⟩
  have HGV := hid (show (if rv = 2 ∨ rv = 1 ∧ v % 2 = 1 then 1 else 0) = (if g then 1 else 0) by
    have e1 : (g = true) ↔ (rv = 2 ∨ rv = 1 ∧ v % 2 = 1) := by rw [← hg.out, ← hodd.out]; simp
    by_cases c : rv = 2 ∨ rv = 1 ∧ v % 2 = 1
    · rw [if_pos c, if_pos (e1.2 c)]
    · rw [if_neg c, if_neg (fun h => c (e1.1 h))])
  rw [HGV.out]
  clear HGV
  obtain ⟨T, hT⟩ : ∃ T, Hid (v + (if g then 1 else 0) = T) := ⟨_, rfl⟩
  rw [hT.out]
  go_enter Tryz.func172, Tryz.ntmps172
  go_wp2_with fail
  go_quiet (fail)
  go_wp2_with fail
  refine (HR.out _ (HA.out _)).mono ?_
  rintro r w1 ⟨⟨L', a', cap', rfl, ⟨s1, s2, s3, s4, s5, s6⟩, _⟩, hb⟩
  have HE := hid (And.intro s1 (And.intro s2 (And.intro s3 (And.intro s4 (And.intro s5 s6)))))
  have HB : Hid (Below w.heap.size w w1) := (HA.out _).trans (hb.mono (HA.out _).size)
  have hbx : w1.cell? ⟨w.heap.size, 0, none⟩ = some (.bool neg) := by
    rw [hb.cell (p := ⟨w.heap.size, 0, none⟩) (by simp [go_sem])]
    simp [go_sem]
  have HBIT : Hid (∀ W, Hid (Below w1.heap.size w1 W) → Calls Tryz.prog 190 #[.slice a' L'.length cap', .int .i64 0] W fun r w' => r = .returned (.bool (decide (v % 2 = 1))) ∧ w' = W) := fun W hW => by
    have := bit_any L' a' cap' 0 0 W (HE.out.2.2.1.below hW.out) HE.out.2.2.2.1 (by decide) (by decide)
    rw [HE.out.2.2.2.2.2, show 32 * 0 + 0 = 0 from rfl, Nat.pow_zero, Nat.div_one] at this
    exact this
  have HRO2 : Hid (∀ W, Hid (Below w1.heap.size w1 W) → Calls Tryz.prog 191 #[.slice a l cap, .int .i64 (n : Nat)] W fun r w' => r = .returned (.int .i64 rv) ∧ w' = W) := fun W hW => HRO.out W (HB.out.trans (hW.out.mono HB.out.size))
  rw [hodd.out] at HBIT
  have HNR : Hid (∀ W, Hid (Below w1.heap.size w1 W) → Calls Tryz.prog 185 #[.agg #[.bool neg, .bool odd, .int .i64 rv]] W fun r w' => r = .returned (.bool g) ∧ Hid (Below w1.heap.size w1 w')) := fun W hW => by
    refine (near_any neg odd rv W hrl).mono ?_
    rintro r w' ⟨rfl, hb'⟩
    rw [hg.out]
    exact ⟨rfl, hW.out.trans (hb'.mono hW.out.size)⟩
  have HPL : Hid (∀ W B, Hid (Below w1.heap.size w1 W) → W.cell? ⟨B, 0, none⟩ = some (.int .u32 1) → Calls Tryz.prog 151 #[.slice a' L'.length cap', .slice (some ⟨B, 0, none⟩) 1 1] W fun r w' => MagOk (v + 1) (l + 1) r w' ∧ Hid (Below w1.heap.size w1 w')) := fun W B hW hc => by
    have hm1 : MagAt W (some ⟨B, 0, none⟩) [1] := fun i hi => by
      have hi0 : i = 0 := by simp at hi; omega
      subst hi0
      exact ⟨B, 0, rfl, World.block_lt_of_cell? W _ hc, hc⟩
    have h := dplus_any L' [1] a' (some ⟨B, 0, none⟩) cap' 1 W (HE.out.2.2.1.below hW.out) hm1 HE.out.2.2.2.1 dig1 (by have := HE.out.2.1; omega) (by decide)
    refine h.mono ?_
    rintro r w' ⟨⟨LS, aS, cS, rfl, t1, t2, t3, t4, t5, t6⟩, hb'⟩
    refine ⟨⟨LS, aS, cS, rfl, t1, ?_, t3, t4, t5, ?_⟩, hW.out.trans (hb'.mono hW.out.size)⟩
    · have := HE.out.2.1
      simp at t2
      omega
    · rw [t6, HE.out.2.2.2.2.2]
      rfl
  have HQ1 : Hid (Below w1.heap.size w1 w1) := Below.refl _ _
  have HQ0 : Hid (Below w1.heap.size w1 w1.drew) := (Below.refl _ _).drew
  have hws : w.heap.size < w1.heap.size := by have := hb.size; simp [go_sem] at this; omega
  have HK : Hid (∀ W, Hid (Below w1.heap.size w1 W) → W.cell? ⟨w.heap.size, 0, none⟩ = some (.bool neg) ∧ Hid (Below w1.heap.size w1 W)) := fun W hW => ⟨by rw [hW.out.cell (p := ⟨w.heap.size, 0, none⟩) hws]; exact hbx, hW⟩
  have HEN : Hid (∀ W, Hid (Below w1.heap.size w1 W) → MagOk v (l + 1) (.returned (.slice a' L'.length cap')) W ∧ Below w.heap.size w W) := fun W hW => ⟨⟨L', a', cap', rfl, HE.out.1, Nat.le_succ_of_le HE.out.2.1, HE.out.2.2.1.below hW.out, HE.out.2.2.2⟩, HB.out.trans (hW.out.mono HB.out.size)⟩
  obtain ⟨k', hk'⟩ : ∃ k, Hid (L'.length = k) := ⟨_, rfl⟩
  rw [hk'.out] at HBIT HPL HEN
  rw [hk'.out]
  clear s1 s2 s3 s4 s5 s6 hb HR HRO HM HD HE
  go_wp2_with fail
  go_region_held3 (fun W => W.cell? ⟨w.heap.size, 0, none⟩ = some (.bool neg) ∧ Hid (Below w1.heap.size w1 W))
    ((refine HK.out _ ?_; first | assumption | exact HQ0 | exact HQ1))
    (first
      | (go_at_call 190; with_reducible refine (HBIT.out _ (And.right (by assumption))).mono ?_; rintro r w2 ⟨rfl, rfl⟩)
      | (go_at_call 191; with_reducible refine (HRO2.out _ (And.right (by assumption))).mono ?_; rintro r w2 ⟨rfl, rfl⟩)
      | (go_at_call 185; with_reducible refine (HNR.out _ (And.right (by assumption))).mono ?_; rintro r w3 ⟨rfl, HB3⟩))
  all_goals
    cases g
    · have hT0 := hT.out
      rw [if_neg (by decide), Nat.add_zero] at hT0
      rw [hT0] at HEN
      clear hT0 hT hg
      go_wp2
      go_ret
      exact HEN.out _ (by assumption)
    · have hT1 := hT.out
      rw [if_pos rfl] at hT1
      rw [hT1] at HPL
      clear hT1 hT hg
      go_wp2_with fail
      refine (HPL.out _ _ (HB3.out.alloc HB3.out.size _) (by simp [go_sem])).mono ?_
      rintro r w4 ⟨⟨LS, aS, cS, rfl, hS⟩, HB4⟩
      have HS := hid hS
      clear hS
      go_wp2
      go_ret
      exact ⟨⟨LS, aS, cS, rfl, HS.out⟩, HB.out.trans (HB4.out.mono HB.out.size)⟩
end Go.Proofs.YtehnkgonhgjeiaaGreatDoor

namespace Go.Proofs.YtehnkgonhgjeiaaGreatDoor
open Go.RowKit Go.IntWalk

/-- How many steps of 2^n a number comes to, by the nearest. -/
def nearV (m n : Nat) : Nat := m / 2 ^ n + (if restV m n = 2 ∨ restV m n = 1 ∧ m / 2 ^ n % 2 = 1 then 1 else 0)
set_option maxRecDepth 4000 in
set_option maxHeartbeats 4000000 in
theorem round_near (neg : Bool) (L : List Nat) (a : Option Addr) (cap s : Nat) (e u : Int) (w : World) (hm : MagAt w a L) (hd : DigL L) (hc : CanL L) (hmay : DyMay neg L e) (hn : L.length ≤ 3000) (h0 : natL L ≠ 0) (hu : max (e + (bitLen (natL L) : Int) - 1 - 53 + 1) (-1074) = u) (hs : u - e = (s : Int)) (hs1 : 1 ≤ s) (hsb : s ≤ 100000) (hfit : nearV (natL L) s ≤ 9007199254740992) (htop : u + (bitLen (nearV (natL L) s) : Int) - 1 ≤ 1023) (he1 : -3000 ≤ e) (he2 : e ≤ 3000) (hub2 : u ≤ 3000) (hT : Tab w) (hg : 3 < w.heap.size) :
    Calls Tryz.prog 141 #[.agg #[.bool neg, .slice a L.length cap, .int .i64 e], .agg #[.int .i64 53, .int .i64 (-1074), .int .i64 1023], .int .i64 0] w fun r w' => r = .returned (.tuple #[.float .f64 (signN neg (wMag (nearV (natL L) s) u)), .int .i64 0]) ∧ Below w.heap.size w w' := by
  have hbl : bitLen (natL L) ≤ 32 * 3000 := by
    have := natL_lt L hd
    rw [pow32] at this
    have h2 := bitLen_le (natL L) _ this
    omega
  have HG := hid (fun (W : World) => grows_any 0 W (by decide) (by decide))
  rw [show grF 0 = 185 from rfl] at HG
  have hL1 : 1 ≤ L.length := by
    apply Classical.byContradiction
    intro c
    have : L = [] := List.length_eq_zero_iff.1 (by omega)
    rw [this] at h0
    exact h0 rfl
  have HMY : Hid (∀ W, Below w.heap.size w W → Calls Tryz.prog 113 #[.agg #[.bool neg, .slice a L.length cap, .int .i64 e]] W fun r w' => r = .returned (.bool true) ∧ Below W.heap.size W w') := fun W hW => May_yes neg L a cap e W (hm.below hW) hmay
  have HSZ : Hid (∀ W, Below w.heap.size w W → Calls Tryz.prog 171 #[.slice a L.length cap] W fun r w' => r = .returned (.int .i64 (bitLen (natL L))) ∧ w' = W) := fun W hW => size_any L a cap W (hm.below hW) hd hc (by omega)
  have HST : Hid (∀ W, Below w.heap.size w W → Calls Tryz.prog 172 #[.agg #[.bool neg, .slice a L.length cap, .int .i64 e], .int .i64 u, .func (.func 185) #[] #[]] W fun r w' => (∃ x b k, r = .returned (.slice b x k) ∧ Hid (∃ LS, LS.length = x ∧ MagIs (nearV (natL L) s) (L.length + 1) LS b k w')) ∧ Below W.heap.size W w') := fun W hW => by
    refine (steps_near neg L a cap s e u W (hm.below hW) hd hn hL1 hs hs1 (by omega)).mono ?_
    rintro r w' ⟨⟨LS, b, k, rfl, hok⟩, hb⟩
    exact ⟨⟨LS.length, b, k, rfl, ⟨LS, rfl, hok⟩⟩, hb⟩
  have HOF : Hid (∀ W, Below w.heap.size w W → Calls Tryz.prog 128 #[.agg #[.bool neg, .int .u64 (nearV (natL L) s : Nat), .int .i64 u]] W fun r w' => r = .returned (.tuple #[.float .f64 (signN neg (wMag (nearV (natL L) s) u)), .int .i64 0]) ∧ Below W.heap.size W w') := fun W hW => Of_good neg (nearV (natL L) s) u W hfit (by omega) htop (hT.below hg hW) (Nat.lt_of_lt_of_le hg hW.size)
  have hbp := bitLen_pos h0
  obtain ⟨n, hnl⟩ : ∃ n, Hid (L.length = n) := ⟨_, rfl⟩
  obtain ⟨l, hl⟩ : ∃ l, Hid (bitLen (natL L) = l) := ⟨_, rfl⟩
  obtain ⟨M, hM⟩ : ∃ M, Hid (nearV (natL L) s = M) := ⟨_, rfl⟩
  rw [hnl.out] at HMY HSZ HST ⊢
  rw [hl.out] at HSZ hu hbp hbl
  rw [hM.out] at HST HOF hfit htop ⊢
  have HMB := hid (show M < 18446744073709551616 by omega)
  obtain ⟨T, hTT⟩ : ∃ T, Hid (e + (l : Int) - 1 = T) := ⟨_, rfl⟩
  have hT0 : IntKind.i64.wrap (e + (l : Int)) = e + (l : Int) := by rw [IntWalk.i64_in _ (by omega)]
  have hT1 : IntKind.i64.wrap (e + (l : Int) - 1) = T := by have := hTT.out; rw [IntWalk.i64_in _ (by omega)]; exact this
  have hT2 : e + (l : Int) - 1 = T := hTT.out
  have hTb1 : -3000 ≤ T := by have := hTT.out; omega
  have hTb2 : T ≤ 100000 := by have := hTT.out; omega
  rw [hTT.out] at hu
  have hu1 : max (T - 53 + 1) (-1074) = u := hu
  have hub : -1074 ≤ u := by omega
  obtain ⟨K, hK⟩ : ∃ K : Nat, Hid (bitLen M = K) := ⟨_, rfl⟩
  rw [hK.out] at htop
  have hKb : K ≤ 60 := by
    have : M < 2 ^ 54 := by have e54 : (2 : Nat) ^ 54 = 18014398509481984 := by decide
                            omega
    have := bitLen_le M 54 this
    have := hK.out
    omega
  obtain ⟨T2, hT2'⟩ : ∃ T2, Hid (u + (K : Int) - 1 = T2) := ⟨_, rfl⟩
  have hK1 : IntKind.i64.wrap (u + (K : Int)) = u + (K : Int) := by rw [IntWalk.i64_in _ (by omega)]
  have hK3 : u + (K : Int) - 1 = T2 := hT2'.out
  have hK2 : IntKind.i64.wrap (u + (K : Int) - 1) = T2 := by rw [IntWalk.i64_in _ (by omega)]; exact hK3
  have hTw : IntKind.i64.wrap T = T := by rw [IntWalk.i64_in _ (by omega)]
  have hTw2 : IntKind.i64.wrap T2 = T2 := by rw [IntWalk.i64_in _ (by omega)]
  have hgtr : ¬ (1023 : Int) < T2 := by omega
  have HK : Hid (∀ W, Hid (RdFr w neg a n cap e W) → ((W.cell? ⟨w.heap.size, 0, none⟩ = some (.bool neg) ∧ W.cell? ⟨w.heap.size, 1, none⟩ = some (.slice a n cap) ∧ W.cell? ⟨w.heap.size, 2, none⟩ = some (.int .i64 e)) ∧ (W.cell? ⟨w.heap.size + 1, 0, none⟩ = some (.int .i64 53) ∧ W.cell? ⟨w.heap.size + 1, 1, none⟩ = some (.int .i64 (-1074)) ∧ W.cell? ⟨w.heap.size + 1, 2, none⟩ = some (.int .i64 1023))) ∧ Hid (RdFr w neg a n cap e W)) := fun W h => ⟨⟨h.out.all.1, h.out.all.2.1⟩, h⟩
  have HR0 : Hid (RdFr w neg a n cap e (RdW w neg a n cap e)) := Below.refl _ _
  obtain ⟨W0, hW0⟩ : ∃ W0, Hid (RdW w neg a n cap e = W0) := ⟨_, rfl⟩
  have hW0' : RdW w neg a n cap e = W0 := hW0.out
  rw [hW0'] at HR0
  unfold RdW DyBox FmBox at hW0'
  have HU := hid hu
  have HNS := hid (show n ≤ 3000 from by have := hnl.out; omega)
  clear hm hd hc hmay hn h0 hu hs hs1 hsb hfit htop he1 he2 hT hg hbl hL1
  go_enter Tryz.func141, Tryz.ntmps141
  go_wp2_with fail
  refine (HG.out _).mono ?_
  rintro r w1 ⟨rfl, hb1⟩
  have HR1 : Hid (RdFr w neg a n cap e w1) := HR0.out.call hb1
  obtain ⟨⟨⟨p0, p1, p2⟩, ⟨q0, q1, q2⟩⟩, _⟩ := HK.out _ HR1
  clear hb1
  go_wp2_with fail
  refine (HMY.out _ HR1.out.all.2.2.1).mono ?_
  rintro r w2 ⟨rfl, hb2⟩
  have HR2 : Hid (RdFr w neg a n cap e w2) := HR1.out.call hb2
  obtain ⟨⟨⟨r0, r1, r2⟩, ⟨s0, s1, s2⟩⟩, _⟩ := HK.out _ HR2
  clear hb2 p0 p1 p2 q0 q1 q2
  have hfn := func_nil 185
  have HQ0 : Hid (RdFr w neg a n cap e w2.drew) := HR2.out.call (Below.refl _ _).drew
  have HSZ2 : Hid (∀ W, Hid (RdFr w neg a n cap e W) → Calls Tryz.prog 171 #[.slice a n cap] W fun r w' => r = .returned (.int .i64 l) ∧ w' = W) := fun W hW => HSZ.out W hW.out.all.2.2.1
  go_wp2_with fail
  go_region_held3 (fun W => ((W.cell? ⟨w.heap.size, 0, none⟩ = some (.bool neg) ∧ W.cell? ⟨w.heap.size, 1, none⟩ = some (.slice a n cap) ∧ W.cell? ⟨w.heap.size, 2, none⟩ = some (.int .i64 e)) ∧ (W.cell? ⟨w.heap.size + 1, 0, none⟩ = some (.int .i64 53) ∧ W.cell? ⟨w.heap.size + 1, 1, none⟩ = some (.int .i64 (-1074)) ∧ W.cell? ⟨w.heap.size + 1, 2, none⟩ = some (.int .i64 1023))) ∧ Hid (RdFr w neg a n cap e W))
    ((refine HK.out _ ?_; first | assumption | exact HQ0))
    ((go_at_call 171; refine (HSZ2.out _ (And.right (by assumption))).mono ?_; rintro r w3 ⟨rfl, rfl⟩))
  go_wp2_with fail
  refine (HST.out _ (HQ0.out.all.2.2.1)).mono ?_
  rintro r w4 ⟨⟨x, b, k, rfl, HLS⟩, hb4⟩
  have HR4 : Hid (RdFr w neg a n cap e w4) := HQ0.out.call hb4
  obtain ⟨⟨⟨t0, t1, t2⟩, ⟨u0, u1, u2⟩⟩, _⟩ := HK.out _ HR4
  have HK4 : Hid (∀ W, Hid (Below w4.heap.size w4 W) → W.cell? ⟨w.heap.size + 1, 2, none⟩ = some (.int .i64 1023) ∧ Hid (Below w4.heap.size w4 W)) := fun W hW => ⟨(HK.out W (HR4.out.call hW.out)).1.2.2.2, hW⟩
  have HQ4 : Hid (Below w4.heap.size w4 w4.drew) := (Below.refl _ _).drew
  have HS4 : Hid (∀ W, Hid (Below w4.heap.size w4 W) → Calls Tryz.prog 171 #[.slice b x k] W fun r w' => r = .returned (.int .i64 (K : Nat)) ∧ w' = W) := fun W hW => by
    obtain ⟨LS, rfl, h⟩ := HLS.out
    have := size_any LS b k W (h.2.2.1.below hW.out) h.2.2.2.1 h.2.2.2.2.1 (by have := h.2.1; have := HNS.out; omega)
    rw [h.2.2.2.2.2, hK.out] at this
    exact this
  obtain ⟨LS, hLx, hLS⟩ := HLS.out
  obtain ⟨tw1, tw2⟩ := two_words LS M hLS.2.2.2.2.1 hLS.2.2.2.2.2 HMB.out
  have HW1 : Hid (∀ W, Below w4.heap.size w4 W → Calls Tryz.prog 169 #[.slice b x k, .int .i64 1] W fun r w' => r = .returned (.int .u32 (LS.getD 1 0)) ∧ w' = W) := fun W hW => by
    rw [← hLx]
    exact word_any LS b k 1 W (hLS.2.2.1.below hW)
  have HW0 : Hid (∀ W, Below w4.heap.size w4 W → Calls Tryz.prog 169 #[.slice b x k, .int .i64 0] W fun r w' => r = .returned (.int .u32 (LS.getD 0 0)) ∧ w' = W) := fun W hW => by
    rw [← hLx]
    exact word_any LS b k 0 W (hLS.2.2.1.below hW)
  have hg0 := hLS.2.2.2.1.get 0
  have hg1 := hLS.2.2.2.1.get 1
  obtain ⟨x0, hx0⟩ : ∃ x0, Hid (LS.getD 0 0 = x0) := ⟨_, rfl⟩
  obtain ⟨x1, hx1⟩ : ∃ x1, Hid (LS.getD 1 0 = x1) := ⟨_, rfl⟩
  rw [hx0.out] at HW0 hg0 tw2
  rw [hx1.out] at HW1 hg1 tw2
  have hor := or_words2 x0 x1 hg0 hg1
  rw [tw2] at hor
  have hwx0 : IntKind.u64.wrap (x0 : Int) = (x0 : Int) := by rw [IntKind.wrap_u64]; omega
  have hwx1 : IntKind.u64.wrap (x1 : Int) = (x1 : Int) := by rw [IntKind.wrap_u64]; omega
  have hwx2 : IntKind.u64.wrap ((x1 : Int) * 4294967296) = (x1 : Int) * 4294967296 := by rw [IntKind.wrap_u64]; omega
  clear hb4 r0 r1 r2 s0 s1 s2 HLS hLS tw1 tw2 hg0 hg1 HST HSZ HSZ2 HG HMY
  go_wp2_with fail
  go_region_held3 (fun W => W.cell? ⟨w.heap.size + 1, 2, none⟩ = some (.int .i64 1023) ∧ Hid (Below w4.heap.size w4 W))
    ((refine HK4.out _ ?_; first | assumption | exact HQ4))
    ((go_at_call 171; refine (HS4.out _ (And.right (by assumption))).mono ?_; rintro r w5 ⟨rfl, rfl⟩))
  go_wp2_with fail
  refine (HW1.out _ HQ4.out).mono ?_
  rintro r w6 ⟨rfl, rfl⟩
  go_wp2_with fail
  refine (HW0.out _ HQ4.out).mono ?_
  rintro r w6 ⟨rfl, rfl⟩
  go_wp2_with fail
  refine (HOF.out _ (HR4.out.call HQ4.out).all.2.2.1).mono ?_
  rintro r w7 ⟨rfl, hb7⟩
  have HBE : Hid (Below w.heap.size w w7) := (HR4.out.call HQ4.out).all.2.2.1.trans (hb7.mono (HR4.out.call HQ4.out).all.2.2.1.size)
  clear hb7
  go_wp2
  go_ret2
  exact ⟨rfl, HBE.out⟩
end Go.Proofs.YtehnkgonhgjeiaaGreatDoor

namespace Go.Proofs.YtehnkgonhgjeiaaGreatDoor
open Go.RowKit Go.IntWalk

theorem f64fromI' (n : Int) (w : World) : (callFunc 44 #[.int .u64 n]).run Tryz.prog w = .ok (.value (.float .f64 n.toNat)) w := by
  rw [run_callFunc_extern Tryz.func44 (by kernel_rfl) (by kernel_rfl) (by kernel_rfl) (e := Extern.MathFloatBits.float64frombits) (by kernel_rfl)]; rfl
set_option maxHeartbeats 400000 in
theorem inf_one (w : World) :
    Calls Tryz.prog 89 #[.int .i64 1] w fun r w' => r = .returned (.float .f64 9218868437227405312) ∧ w' = w := by
  have h2 := f64fromI'
  go_enter Tryz.func89, Tryz.ntmps89
  go_wp2
  go_ret
  exact ⟨rfl, rfl⟩
theorem len_l (x l : Nat) (w : World) (hx : x < 18446744073709551616) (h : bitLen x = l) :
    Calls Tryz.prog 107 #[.int .u64 x] w fun r w' => r = .returned (.int .i64 l) ∧ w' = w := by
  rw [← h]; exact len_any x w hx
theorem copy_w (a : Nat) (neg : Bool) (r : Nat) (ha : a < 9223372036854775808) (hr : r < 9223372036854775808) : (bits .or .u64 (bits .andNot .u64 (a : Int) 9223372036854775808) (bits .and .u64 (signN neg r : Int) 9223372036854775808)).toNat = signN neg a := by
  have hl : signN neg r < 18446744073709551616 := by unfold signN; split <;> omega
  rw [andNot_sign a (by omega), and_sign _ hl, Nat.mod_eq_of_lt ha]
  cases neg
  · rw [signN_false, signN_false, if_neg (by omega)]
    have := u64_or_nat a 0 (by omega) (by omega)
    rw [Nat.or_zero] at this
    have e : ((0 : Nat) : Int) = 0 := rfl
    rw [e] at this ⊢
    rw [this]; omega
  · have e : signN true r = r + 9223372036854775808 := rfl
    rw [e, if_pos (by omega)]
    have := or_sign a ha
    have e2 : ((9223372036854775808 : Nat) : Int) = 9223372036854775808 := rfl
    rw [e2, this]; omega
set_option maxHeartbeats 400000 in
theorem copysign_any (a : Nat) (neg : Bool) (r : Nat) (w : World) (ha : a < 9223372036854775808) (hr : r < 9223372036854775808) :
    Calls Tryz.prog 47 #[.float .f64 a, .float .f64 (signN neg r)] w fun e w' => e = .returned (.float .f64 (signN neg a)) ∧ w' = w := by
  have h1 := f64bits
  have h2 := f64fromI'
  have H := hid (copy_w a neg r ha hr)
  obtain ⟨x, hx⟩ : ∃ x, Hid (signN neg r = x) := ⟨_, rfl⟩
  rw [hx.out] at H ⊢
  have HA := hid ha
  have HRR := hid hr
  clear ha hr
  go_enter Tryz.func47, Tryz.ntmps47
  go_wp2
  go_ret
  exact ⟨ret_f H.out, rfl⟩

theorem great_word : bitLen 9007199254740991 = 53 := by decide +kernel
set_option maxRecDepth 4000 in
set_option maxHeartbeats 2000000 in
theorem beyond_near (neg : Bool) (w : World) (hT : Tab w) (hg : 3 < w.heap.size) :
    Calls Tryz.prog 173 #[.bool neg, .agg #[.int .i64 53, .int .i64 (-1074), .int .i64 1023], .func (.func 185) #[] #[]] w fun r w' => r = .returned (.float .f64 (signN neg 9218868437227405312)) ∧ Below w.heap.size w w' := by
  have HOF : Hid (∀ W, Below w.heap.size w W → Calls Tryz.prog 128 #[.agg #[.bool neg, .int .u64 9007199254740991, .int .i64 971]] W fun r w' => r = .returned (.tuple #[.float .f64 (signN neg (wMag 9007199254740991 971)), .int .i64 0]) ∧ Below W.heap.size W w') := fun W hW => Of_good neg 9007199254740991 971 W (by decide) (by decide) (by rw [great_word]; decide) (hT.below hg hW) (Nat.lt_of_lt_of_le hg hW.size)
  have HNR : Hid (∀ W, Calls Tryz.prog 185 #[.agg #[.bool neg, .bool true, .int .i64 2]] W fun r w' => r = .returned (.bool true) ∧ Below W.heap.size W w') := fun W => near_any neg true 2 W (by decide)
  obtain ⟨R, hR⟩ : ∃ R, Hid (wMag 9007199254740991 971 = R) := ⟨_, rfl⟩
  have HRL := hid (show R < 9223372036854775808 by rw [← hR.out]; decide +kernel)
  have HCS := hid (fun (W : World) => copysign_any 9218868437227405312 neg R W (by decide) HRL.out)
  rw [hR.out] at HOF
  obtain ⟨X, hX⟩ : ∃ X, Hid (signN neg R = X) := ⟨_, rfl⟩
  obtain ⟨Y, hY⟩ : ∃ Y, Hid (signN neg 9218868437227405312 = Y) := ⟨_, rfl⟩
  rw [hX.out] at HOF HCS
  rw [hY.out] at HCS ⊢
  obtain ⟨W0, hW0⟩ : ∃ W0, Hid (w.alloc FmBox = W0) := ⟨_, rfl⟩
  have hW0' : w.alloc FmBox = W0 := hW0.out
  have HB0 : Hid (Below w.heap.size w W0) := by rw [← hW0.out]; exact (Below.refl _ _).alloc (Nat.le_refl _) _
  have hbx : W0.heap[w.heap.size]? = some FmBox := by rw [← hW0.out]; exact new_blk _ _ _ rfl
  have hlt : w.heap.size < W0.heap.size := (Array.getElem?_eq_some_iff.1 hbx).1
  have HK : Hid (∀ W, Hid (Below W0.heap.size W0 W) → (W.cell? ⟨w.heap.size, 0, none⟩ = some (.int .i64 53) ∧ W.cell? ⟨w.heap.size, 2, none⟩ = some (.int .i64 1023)) ∧ Hid (Below W0.heap.size W0 W)) := fun W hW => by
    have hb : W.heap[w.heap.size]? = some FmBox := by rw [hW.out.block _ hlt]; exact hbx
    exact ⟨⟨by simp [World.cell?, hb, FmBox], by simp [World.cell?, hb, FmBox]⟩, hW⟩
  have HQ0 : Hid (Below W0.heap.size W0 W0.drew) := (Below.refl _ _).drew
  have HOF2 : Hid (∀ W, Hid (Below W0.heap.size W0 W) → Calls Tryz.prog 128 #[.agg #[.bool neg, .int .u64 9007199254740991, .int .i64 971]] W fun r w' => r = .returned (.tuple #[.float .f64 X, .int .i64 0]) ∧ Hid (Below W0.heap.size W0 w')) := fun W hW => by
    refine (HOF.out W (HB0.out.trans (hW.out.mono HB0.out.size))).mono ?_
    rintro r w' ⟨rfl, hb⟩
    exact ⟨rfl, hW.out.trans (hb.mono hW.out.size)⟩
  unfold FmBox at hW0'
  clear hT hg hbx HOF
  go_enter Tryz.func173, Tryz.ntmps173
  go_wp2_with fail
  go_region_held3 (fun W => (W.cell? ⟨w.heap.size, 0, none⟩ = some (.int .i64 53) ∧ W.cell? ⟨w.heap.size, 2, none⟩ = some (.int .i64 1023)) ∧ Hid (Below W0.heap.size W0 W))
    ((refine HK.out _ ?_; first | assumption | exact HQ0))
    ((go_at_call 128; refine (HOF2.out _ (And.right (by assumption))).mono ?_; rintro r w1 ⟨rfl, HB1⟩))
  all_goals
    go_wp2_with fail
    refine (HNR.out _).mono ?_
    rintro r w2 ⟨rfl, hb2⟩
    have HB2 : Hid (Below W0.heap.size W0 w2) := HB1.out.trans (hb2.mono HB1.out.size)
    clear hb2
    go_wp2_with fail
    refine (inf_one _).mono ?_
    rintro r w3 ⟨rfl, rfl⟩
    go_wp2_with fail
    refine (HCS.out _).mono ?_
    rintro r w4 ⟨rfl, rfl⟩
    go_wp2
    go_ret
    exact ⟨rfl, HB0.out.trans (HB2.out.mono HB0.out.size)⟩
end Go.Proofs.YtehnkgonhgjeiaaGreatDoor
