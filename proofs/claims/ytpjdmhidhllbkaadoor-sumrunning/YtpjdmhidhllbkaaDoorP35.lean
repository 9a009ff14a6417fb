
/- Chapter 3's first examples hold. -/
import Derived.Test.YtpjdmhidhllbkaaDoorP34
namespace Go.Proofs.YtpjdmhidhllbkaaDoor
open Go.RowKit Go.IntWalk

theorem at_half : pNeg 4602678819172646912 = false ∧ pMant 4602678819172646912 = 1 ∧ pExp 4602678819172646912 = -1 ∧ pErr 4602678819172646912 = 0 := by decide +kernel
theorem at_one : wMag (natL [1] * 2 ^ 52) (-52) = 4607182418800017408 ∧ bitLen (natL [1]) = 1 ∧ (FloatKind.f64.format.order 4607182418800017408 4607182418800017408 == some .eq) = true := by decide +kernel
theorem dig1 : DigL [1] := fun d hd => by simp at hd; rw [hd]; decide
theorem can1 : CanL [1] := fun _ => by decide
theorem dyv_one (k : Nat) : DyV false [1] (k : Int) (1 * 2 ^ k) 0 := ⟨dig1, can1, Or.inr ⟨by decide, k, rfl, by omega⟩⟩
theorem may1 (e : Int) (h1 : -100000 ≤ e) (h2 : e ≤ 100000) : DyMay false [1] e := Or.inr ⟨by decide, by decide, can1, by decide, h1, h2⟩
/-- The dyad of 1. -/
theorem Round_one (neg : Bool) (a : Option Addr) (n cap : Nat) (e : Int) (w : World) (h : DyAt w neg a n cap e 2 (-1)) (hT : Tab w) (hg : 3 < w.heap.size) :
    Calls Tryd.prog 30 #[.agg #[.bool neg, .slice a n cap, .int .i64 e], .int .i64 0] w fun r w' => r = .returned (.tuple #[.float .f64 4607182418800017408, .int .i64 0]) ∧ Below w.heap.size w w' := by
  obtain ⟨L, rfl, h1, h2, h3, h4⟩ := h
  have hv : DyV false [1] 0 2 (-1) := ⟨dig1, can1, Or.inr ⟨by decide, 1, rfl, rfl⟩⟩
  obtain ⟨rfl, rfl, rfl⟩ := h3.uniq hv
  obtain ⟨b1, b2, _⟩ := at_one
  have := Round_core false a 1 cap _ 0 0 0 w (fun W hW => round_left false [1] a cap 52 0 (-52) 0 W (h2.below hW) dig1 can1 h4 (by decide) (by decide) (by rw [b2]; decide) (by decide) (by decide) (by decide) (by rw [b2]; decide) (by decide) (by decide) (by decide) (by decide) (hT.below hg hW) (Nat.lt_of_lt_of_le hg hW.size))
  rw [b1] at this
  exact this
end Go.Proofs.YtpjdmhidhllbkaaDoor

namespace Go.Proofs.YtpjdmhidhllbkaaDoor
open Go.RowKit Go.IntWalk

/-- A number's bit lies in one of its words. -/
theorem natL_bit (L : List Nat) (hD : DigL L) (q s : Nat) (hs : s < 32) : natL L / 2 ^ (32 * q + s) % 2 = L.getD q 0 / 2 ^ s % 2 := by
  rw [Nat.pow_add, ← pow32, ← Nat.div_div_eq_div_mul, natL_div L hD, natL_drop L q]
  obtain ⟨r, hr⟩ : ∃ r, natL (L.drop (q + 1)) = r := ⟨_, rfl⟩
  obtain ⟨d, hd⟩ : ∃ d, L.getD q 0 = d := ⟨_, rfl⟩
  rw [hr, hd]
  have h32 : (4294967296 : Nat) = 2 ^ s * (2 * 2 ^ (31 - s)) := by
    rw [show 2 * 2 ^ (31 - s) = 2 ^ (32 - s) by rw [show 32 - s = (31 - s) + 1 by omega, Nat.pow_succ, Nat.mul_comm], ← Nat.pow_add, show s + (32 - s) = 32 by omega]
  have e : d + 4294967296 * r = d + 2 ^ s * (2 * (2 ^ (31 - s) * r)) := by
    conv => lhs; rw [h32]
    rw [Nat.mul_assoc, Nat.mul_assoc]
  rw [e, Nat.add_mul_div_left _ _ (Nat.two_pow_pos s)]
  omega
theorem and1 (d : Nat) (hd : d < 4294967296) : bits .and .u32 (d : Int) 1 = ((d % 2 : Nat) : Int) := by
  rw [show (1 : Int) = ((1 : Nat) : Int) from rfl, u32_and_nat d 1 hd (by decide), Nat.and_one_is_mod]
theorem bit_is (x s : Nat) (hx : x < 4294967296) : (bits .and .u32 ((x : Int) / 2 ^ s) 1 == 1) = decide (x / 2 ^ s % 2 = 1) := by
  rw [show ((x : Int) / 2 ^ s) = ((x / 2 ^ s : Nat) : Int) by rw [Int.natCast_ediv, Int.natCast_pow]; rfl, and1 _ (Nat.lt_of_le_of_lt (Nat.div_le_self _ _) hx)]
  by_cases h : x / 2 ^ s % 2 = 1
  · rw [h]; simp
  · rw [show x / 2 ^ s % 2 = 0 by omega]; simp
set_option maxRecDepth 4000 in
set_option maxHeartbeats 1000000 in
theorem bit_any (L : List Nat) (a : Option Addr) (cap q s : Nat) (w : World) (hm : MagAt w a L) (hd : DigL L) (hs : s < 32) (hq : q ≤ 1000000) :
    Calls Tryd.prog 88 #[.slice a L.length cap, .int .i64 ((32 * q + s : Nat) : Int)] w fun r w' => r = .returned (.bool (decide (natL L / 2 ^ (32 * q + s) % 2 = 1))) ∧ w' = w := by
  rw [natL_bit L hd q s hs]
  obtain ⟨N, hN⟩ : ∃ N : Nat, Hid (32 * q + s = N) := ⟨_, rfl⟩
  rw [hN.out]
  have hdiv : (N : Int) / 32 = (q : Int) := by have := hN.out; omega
  have hmod : (N : Int) % 32 = (s : Int) := by have := hN.out; omega
  have hN0 : (0 : Int) ≤ (N : Int) := by omega
  have hNb : (N : Int) ≤ 40000000 := by have := hN.out; omega
  have hsI : (s : Int) < 32 := by omega
  have hs0 : (0 : Int) ≤ (s : Int) := by omega
  have HG := hid (show ∀ k, ¬ k < L.length → L.getD k 0 = 0 from fun k hk => by simp [List.getD, List.getElem?_eq_none (Nat.le_of_not_lt hk)])
  have HM := hid hm
  obtain ⟨n, hnl⟩ : ∃ n, Hid (L.length = n) := ⟨_, rfl⟩
  rw [hnl.out] at HG ⊢
  clear hm
  by_cases hlt : q < n
  · obtain ⟨b, off, rfl, hb, hc⟩ := HM.out q (by rw [hnl.out]; exact hlt)
    have hx := hd.get q
    obtain ⟨x, hxx⟩ : ∃ x, Hid (L.getD q 0 = x) := ⟨_, rfl⟩
    rw [hxx.out] at hc hx ⊢
    have hqI : (q : Int) < (n : Int) := by omega
    have hq0 : (0 : Int) ≤ (q : Int) := by omega
    clear HG hd hs
    go_enter Tryd.func88, Tryd.ntmps88
    go_wp2
    rw [bit_is x s hx]
    go_ret
    exact ⟨rfl, rfl⟩
  · rw [HG.out q hlt]
    have hqI : ¬ (q : Int) < (n : Int) := by omega
    clear HG hd hs HM
    go_enter Tryd.func88, Tryd.ntmps88
    go_wp2
    go_ret
    exact ⟨by simp, rfl⟩
/-- What is left over where n bits are cut off an odd number: 0 little, 1 a half, 2 more. -/
def restV (m n : Nat) : Nat := if n = 1 then 1 else if m / 2 ^ (n - 1) % 2 = 1 then 2 else 0
set_option maxHeartbeats 1000000 in
theorem restOf_any (L : List Nat) (a : Option Addr) (cap n : Nat) (w : World) (hm : MagAt w a L) (hd : DigL L) (h1 : 1 ≤ n) (h2 : n ≤ 30000000) :
    Calls Tryd.prog 89 #[.slice a L.length cap, .int .i64 n] w fun r w' => r = .returned (.int .i64 (restV (natL L) n)) ∧ w' = w := by
  have HB := hid (bit_any L a cap ((n - 1) / 32) ((n - 1) % 32) w hm hd (Nat.mod_lt _ (by decide)) (by omega))
  rw [show 32 * ((n - 1) / 32) + (n - 1) % 32 = n - 1 by omega] at HB
  by_cases hn : n = 1
  · have e : restV (natL L) n = 1 := by unfold restV; rw [if_pos hn]
    rw [e]
    subst hn
    clear HB hm hd h1 h2
    go_enter Tryd.func89, Tryd.ntmps89
    go_wp2
    go_ret
    exact ⟨rfl, rfl⟩
  · have hnI : ((n : Int) == 1) = false := by simp; omega
    have hI1 : (n : Int) - 1 = ((n - 1 : Nat) : Int) := by omega
    have hIw : IntKind.i64.wrap ((n : Int) - 1) = ((n - 1 : Nat) : Int) := by rw [IntWalk.i64_in _ (by omega)]; omega
    have e : restV (natL L) n = if natL L / 2 ^ (n - 1) % 2 = 1 then 2 else 0 := by unfold restV; rw [if_neg hn]
    rw [e]
    obtain ⟨k, hk⟩ : ∃ k, Hid (n - 1 = k) := ⟨_, rfl⟩
    rw [hk.out] at HB hI1 hIw ⊢
    have hkb : (k : Int) ≤ 30000000 := by have := hk.out; omega
    by_cases hb : natL L / 2 ^ k % 2 = 1
    · rw [if_pos hb]
      rw [decide_eq_true hb] at HB
      clear hm hd hb
      go_enter Tryd.func89, Tryd.ntmps89
      go_wp2_with fail
      refine HB.out.mono ?_
      rintro r w1 ⟨rfl, rfl⟩
      go_wp2
      go_ret
      exact ⟨rfl, rfl⟩
    · rw [if_neg hb]
      rw [decide_eq_false hb] at HB
      clear hm hd hb
      go_enter Tryd.func89, Tryd.ntmps89
      go_wp2_with fail
      refine HB.out.mono ?_
      rintro r w1 ⟨rfl, rfl⟩
      go_wp2
      go_ret
      exact ⟨rfl, rfl⟩
end Go.Proofs.YtpjdmhidhllbkaaDoor

namespace Go.Proofs.YtpjdmhidhllbkaaDoor
open Go.RowKit Go.IntWalk

set_option maxHeartbeats 1000000 in
theorem near_any (neg odd : Bool) (l : Nat) (w : World) (hl : l ≤ 2) :
    Calls Tryd.prog 80 #[.agg #[.bool neg, .bool odd, .int .i64 l]] w fun r w' => r = .returned (.bool (l == 2 || l == 1 && odd)) ∧ Below w.heap.size w w' := by
  rcases (show l = 0 ∨ l = 1 ∨ l = 2 by omega) with rfl | rfl | rfl
  all_goals
    clear hl
    go_enter Tryd.func80, Tryd.ntmps80
    go_wp2
    go_ret
    exact ⟨by simp, (Below.refl _ _).alloc (Nat.le_refl _) _⟩
set_option maxRecDepth 4000 in
set_option maxHeartbeats 4000000 in
theorem steps_near (neg : Bool) (L : List Nat) (a : Option Addr) (cap n : Nat) (e u : Int) (w : World) (hm : MagAt w a L) (hd : DigL L) (hn : L.length ≤ 3000) (hl0 : 1 ≤ L.length) (hu : u - e = (n : Int)) (h1 : 1 ≤ n) (h2 : n ≤ 200000) :
    Calls Tryd.prog 70 #[.agg #[.bool neg, .slice a L.length cap, .int .i64 e], .int .i64 u, .func (.func 80) #[] #[]] w fun r w' => MagOk (natL L / 2 ^ n + (if restV (natL L) n = 2 ∨ restV (natL L) n = 1 ∧ natL L / 2 ^ n % 2 = 1 then 1 else 0)) (L.length + 1) r w' ∧ Below w.heap.size w w' := by
  have HR : Hid (∀ W, Below w.heap.size w W → Calls Tryd.prog 78 #[.slice a L.length cap, .int .i64 (n : Nat)] W fun r w' => MagNew (natL L / 2 ^ n) L.length W.heap.size r w' ∧ Below W.heap.size W w') := fun W hW => by
    have := dright_any L a cap (n / 32) (n % 32) W (hm.below hW) (Nat.mod_lt _ (by decide)) (by omega) (by omega) hd
    rw [show 32 * (n / 32) + n % 32 = n by omega] at this
    exact this
  have HRO : Hid (∀ W, Below w.heap.size w W → Calls Tryd.prog 89 #[.slice a L.length cap, .int .i64 (n : Nat)] W fun r w' => r = .returned (.int .i64 (restV (natL L) n)) ∧ w' = W) := fun W hW => restOf_any L a cap n W (hm.below hW) hd h1 (by omega)
  have HM := hid hm
  have HD := hid hd
  obtain ⟨l, hl⟩ : ∃ l, Hid (L.length = l) := ⟨_, rfl⟩
  rw [hl.out] at hn hl0 HR HRO ⊢
  obtain ⟨rv, hrv⟩ : ∃ r, Hid (restV (natL L) n = r) := ⟨_, rfl⟩
  have hrl : rv ≤ 2 := by rw [← hrv.out]; unfold restV; split <;> (try split) <;> omega
  rw [hrv.out] at HRO ⊢
  obtain ⟨v, hv⟩ : ∃ v, Hid (natL L / 2 ^ n = v) := ⟨_, rfl⟩
  rw [hv.out] at HR ⊢
  have hw : IntKind.i64.wrap (u - e) = (n : Int) := by rw [IntWalk.i64_in _ (by omega)]; exact hu
  have hwn : IntKind.i64.wrap (n : Int) = (n : Int) := by rw [IntWalk.i64_in _ (by omega)]
  have hn0 : ¬ (n : Int) ≤ 0 := by omega
  have HA : Hid (∀ k, Below w.heap.size w ((w.alloc (.cells #[.bool neg, .slice a l cap, .int .i64 e] 49)).drewN k)) := fun k => bl_drewN k ((Below.refl _ _).alloc (Nat.le_refl _) _)
  clear hm hd h1 h2
  obtain ⟨odd, hodd⟩ : ∃ b, Hid (decide (v % 2 = 1) = b) := ⟨_, rfl⟩
  obtain ⟨g, hg⟩ : ∃ g, Hid ((rv == 2 || rv == 1 && odd) = g) := ⟨_, rfl⟩
  have HGV := hid (show (if rv = 2 ∨ rv = 1 ∧ v % 2 = 1 then 1 else 0) = (if g then 1 else 0) by
    have e1 : (g = true) ↔ (rv = 2 ∨ rv = 1 ∧ v % 2 = 1) := by rw [← hg.out, ← hodd.out]; simp
    by_cases c : rv = 2 ∨ rv = 1 ∧ v % 2 = 1
    · rw [if_pos c, if_pos (e1.2 c)]
    · rw [if_neg c, if_neg (fun h => c (e1.1 h))])
  rw [HGV.out]
  clear HGV
  obtain ⟨T, hT⟩ : ∃ T, Hid (v + (if g then 1 else 0) = T) := ⟨_, rfl⟩
  rw [hT.out]
  go_enter Tryd.func70, Tryd.ntmps70
  go_wp2_with fail
  go_quiet (fail)
  go_wp2_with fail
  refine (HR.out _ (HA.out _)).mono ?_
  rintro r w1 ⟨⟨L', a', cap', rfl, ⟨s1, s2, s3, s4, s5, s6⟩, _⟩, hb⟩
  have HE := hid (And.intro s1 (And.intro s2 (And.intro s3 (And.intro s4 (And.intro s5 s6)))))
  have HB : Hid (Below w.heap.size w w1) := (HA.out _).trans (hb.mono (HA.out _).size)
  have hbx : w1.cell? ⟨w.heap.size, 0, none⟩ = some (.bool neg) := by
    rw [hb.cell (p := ⟨w.heap.size, 0, none⟩) (by simp [go_sem])]
    simp [go_sem]
  have HBIT : Hid (∀ W, Hid (Below w1.heap.size w1 W) → Calls Tryd.prog 88 #[.slice a' L'.length cap', .int .i64 0] W fun r w' => r = .returned (.bool (decide (v % 2 = 1))) ∧ w' = W) := fun W hW => by
    have := bit_any L' a' cap' 0 0 W (HE.out.2.2.1.below hW.out) HE.out.2.2.2.1 (by decide) (by decide)
    rw [HE.out.2.2.2.2.2, show 32 * 0 + 0 = 0 from rfl, Nat.pow_zero, Nat.div_one] at this
    exact this
  have HRO2 : Hid (∀ W, Hid (Below w1.heap.size w1 W) → Calls Tryd.prog 89 #[.slice a l cap, .int .i64 (n : Nat)] W fun r w' => r = .returned (.int .i64 rv) ∧ w' = W) := fun W hW => HRO.out W (HB.out.trans (hW.out.mono HB.out.size))
  rw [hodd.out] at HBIT
  have HNR : Hid (∀ W, Hid (Below w1.heap.size w1 W) → Calls Tryd.prog 80 #[.agg #[.bool neg, .bool odd, .int .i64 rv]] W fun r w' => r = .returned (.bool g) ∧ Hid (Below w1.heap.size w1 w')) := fun W hW => by
    refine (near_any neg odd rv W hrl).mono ?_
    rintro r w' ⟨rfl, hb'⟩
    rw [hg.out]
    exact ⟨rfl, hW.out.trans (hb'.mono hW.out.size)⟩
  have HPL : Hid (∀ W B, Hid (Below w1.heap.size w1 W) → W.cell? ⟨B, 0, none⟩ = some (.int .u32 1) → Calls Tryd.prog 90 #[.slice a' L'.length cap', .slice (some ⟨B, 0, none⟩) 1 1] W fun r w' => MagOk (v + 1) (l + 1) r w' ∧ Hid (Below w1.heap.size w1 w')) := fun W B hW hc => by
    have hm1 : MagAt W (some ⟨B, 0, none⟩) [1] := fun i hi => by
      have hi0 : i = 0 := by simp at hi; omega
      subst hi0
      exact ⟨B, 0, rfl, World.block_lt_of_cell? W _ hc, hc⟩
    have h := dplus_any L' [1] a' (some ⟨B, 0, none⟩) cap' 1 W (HE.out.2.2.1.below hW.out) hm1 HE.out.2.2.2.1 dig1 (by have := HE.out.2.1; omega) (by decide)
    refine h.mono ?_
    rintro r w' ⟨⟨LS, aS, cS, rfl, t1, t2, t3, t4, t5, t6⟩, hb'⟩
    refine ⟨⟨LS, aS, cS, rfl, t1, ?_, t3, t4, t5, ?_⟩, hW.out.trans (hb'.mono hW.out.size)⟩
    · have := HE.out.2.1
      simp at t2
      omega
    · rw [t6, HE.out.2.2.2.2.2]
      rfl
  have HQ1 : Hid (Below w1.heap.size w1 w1) := Below.refl _ _
  have HQ0 : Hid (Below w1.heap.size w1 w1.drew) := (Below.refl _ _).drew
  have hws : w.heap.size < w1.heap.size := by have := hb.size; simp [go_sem] at this; omega
  have HK : Hid (∀ W, Hid (Below w1.heap.size w1 W) → W.cell? ⟨w.heap.size, 0, none⟩ = some (.bool neg) ∧ Hid (Below w1.heap.size w1 W)) := fun W hW => ⟨by rw [hW.out.cell (p := ⟨w.heap.size, 0, none⟩) hws]; exact hbx, hW⟩
  have HEN : Hid (∀ W, Hid (Below w1.heap.size w1 W) → MagOk v (l + 1) (.returned (.slice a' L'.length cap')) W ∧ Below w.heap.size w W) := fun W hW => ⟨⟨L', a', cap', rfl, HE.out.1, Nat.le_succ_of_le HE.out.2.1, HE.out.2.2.1.below hW.out, HE.out.2.2.2⟩, HB.out.trans (hW.out.mono HB.out.size)⟩
  obtain ⟨k', hk'⟩ : ∃ k, Hid (L'.length = k) := ⟨_, rfl⟩
  rw [hk'.out] at HBIT HPL HEN
  rw [hk'.out]
  clear s1 s2 s3 s4 s5 s6 hb HR HRO HM HD HE
  go_wp2_with fail
  go_region_held3 (fun W => W.cell? ⟨w.heap.size, 0, none⟩ = some (.bool neg) ∧ Hid (Below w1.heap.size w1 W))
    ((refine HK.out _ ?_; first | assumption | exact HQ0 | exact HQ1))
    (first
      | (go_at_call 88; with_reducible refine (HBIT.out _ (And.right (by assumption))).mono ?_; rintro r w2 ⟨rfl, rfl⟩)
      | (go_at_call 89; with_reducible refine (HRO2.out _ (And.right (by assumption))).mono ?_; rintro r w2 ⟨rfl, rfl⟩)
      | (go_at_call 80; with_reducible refine (HNR.out _ (And.right (by assumption))).mono ?_; rintro r w3 ⟨rfl, HB3⟩))
  all_goals
    cases g
    · have hT0 := hT.out
      rw [if_neg (by decide), Nat.add_zero] at hT0
      rw [hT0] at HEN
      clear hT0 hT hg
      go_wp2
      go_ret
      exact HEN.out _ (by assumption)
    · have hT1 := hT.out
      rw [if_pos rfl] at hT1
      rw [hT1] at HPL
      clear hT1 hT hg
      go_wp2_with fail
      refine (HPL.out _ _ (HB3.out.alloc HB3.out.size _) (by simp [go_sem])).mono ?_
      rintro r w4 ⟨⟨LS, aS, cS, rfl, hS⟩, HB4⟩
      have HS := hid hS
      clear hS
      go_wp2
      go_ret
      exact ⟨⟨LS, aS, cS, rfl, HS.out⟩, HB.out.trans (HB4.out.mono HB.out.size)⟩
end Go.Proofs.YtpjdmhidhllbkaaDoor
