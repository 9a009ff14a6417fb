
/- The document's Rsh of any number: the floor; its Bit(0) of any number. (Written by mkrda.py.) -/
import Derived.Test.YtehnkgonhgjeiaaGreatDoorP36
namespace Go.Proofs.YtehnkgonhgjeiaaGreatDoor
open Go.RowKit Go.IntWalk

set_option maxRecDepth 4000 in
set_option maxHeartbeats 2000000 in
theorem Rsh_floor (z x q s m : Nat) (L : List Nat) (w : World) (hz : ZOk z w w) (hx : BigAt w x true L) (hs : s < 32) (hq : q ≤ 1000000) (hn : L.length ≤ 900000) (hv : (natL L - 1) / 2 ^ (32 * q + s) + 1 = m) (hpos : 1 ≤ natL L) :
    Calls Tryz.prog 72 #[.pointer (some ⟨z, 0, none⟩), .pointer (some ⟨x, 0, none⟩), .int .u64 ((32 * q + s : Nat) : Int)] w fun r w' => r = .returned (.pointer (some ⟨z, 0, none⟩)) ∧ PutIs z true m (L.length + 1) w w' := by
  obtain ⟨a, cap, ho, hcap, hm, hd, hc, hneg⟩ := hx
  obtain ⟨c0, c1, hf, hlt⟩ := int_cells ho
  have HZ := hid hz
  have hm1 : 1 ≤ m := by rw [← hv]; exact Nat.le_add_left _ _
  have HMI : Hid (∀ W b, Below w.heap.size w W → W.cell? ⟨b, 0, none⟩ = some (.int .u32 1) → Calls Tryz.prog 121 #[.slice a L.length cap, .slice (some ⟨b, 0, none⟩) 1 1] W fun r w' => ∃ l' a' cap', r = .returned (.slice a' l' cap') ∧ Hid (∃ L', L'.length = l' ∧ MagIs (natL L - 1) L.length L' a' cap' w') ∧ Below W.heap.size W w') := fun W b hW hb => by
    refine (minus_any L [1] a (some ⟨b, 0, none⟩) cap 1 W (hm.below hW) (mag_one W b hb) hd dig_one can_one (by omega) hpos).mono ?_
    rintro r w' ⟨⟨L', a', cap', rfl, h1⟩, hb'⟩
    exact ⟨L'.length, a', cap', rfl, ⟨L', rfl, h1⟩, hb'⟩
  have HRI : Hid (∀ W l' a' cap', Hid (∃ L', L'.length = l' ∧ MagIs (natL L - 1) L.length L' a' cap' W) → Calls Tryz.prog 120 #[.slice a' l' cap', .int .u64 ((32 * q + s : Nat) : Int)] W fun r w' => ∃ l' a' cap', r = .returned (.slice a' l' cap') ∧ Hid (∃ L', L'.length = l' ∧ MagIs (m - 1) L.length L' a' cap' w') ∧ Below W.heap.size W w') := fun W l' a' cap' h => by
    obtain ⟨L', rfl, h1, h2, h3, h4, h5, h6⟩ := h.out
    refine (right_any L' a' cap' q s W h3 hs hq (by omega) h4).mono ?_
    rintro r w' ⟨⟨L2, a2, cap2, rfl, g1, g2, g3, g4, g5, g6⟩, hb'⟩
    refine ⟨L2.length, a2, cap2, rfl, ⟨L2, rfl, g1, by omega, g3, g4, g5, ?_⟩, hb'⟩
    rw [g6, h6, ← hv, Nat.add_sub_cancel]
  have HPL : Hid (∀ W l' a' cap' b, Hid (∃ L', L'.length = l' ∧ MagIs (m - 1) L.length L' a' cap' W) → W.cell? ⟨b, 0, none⟩ = some (.int .u32 1) → Calls Tryz.prog 122 #[.slice a' l' cap', .slice (some ⟨b, 0, none⟩) 1 1] W fun r w' => ∃ l' a' cap', r = .returned (.slice a' l' cap') ∧ Hid (∃ L', L'.length = l' ∧ MagIs m (L.length + 1) L' a' cap' w') ∧ Below W.heap.size W w') := fun W l' a' cap' b h hb => by
    obtain ⟨L', rfl, h1, h2, h3, h4, h5, h6⟩ := h.out
    refine (plus_any L' [1] a' (some ⟨b, 0, none⟩) cap' 1 W h3 (mag_one W b hb) h4 dig_one (by omega) (by simp)).mono ?_
    rintro r w' ⟨⟨L2, a2, cap2, rfl, g1, g2, g3, g4, g5, g6⟩, hb'⟩
    refine ⟨L2.length, a2, cap2, rfl, ⟨L2, rfl, g1, ?_, g3, g4, g5, ?_⟩, hb'⟩
    · have : ([1] : List Nat).length = 1 := rfl
      have hl : L.length ≠ 0 := by
        intro c
        rw [List.length_eq_zero_iff.1 c] at hpos
        exact absurd hpos (by decide)
      omega
    · rw [g6, h6]
      show m - 1 + (1 + 4294967296 * 0) = m
      omega
  have HPU : Hid (∀ W l' a' cap', Hid (ZOk z w W) → Hid (∃ L', L'.length = l' ∧ MagIs m (L.length + 1) L' a' cap' W) → Calls Tryz.prog 119 #[.pointer (some ⟨z, 0, none⟩), .bool true, .slice a' l' cap'] W fun r w' => r = .returned (.pointer (some ⟨z, 0, none⟩)) ∧ Hid (PutIs z true m (L.length + 1) w w')) := fun W l' a' cap' h1 h2 => by
    obtain ⟨L', rfl, h3⟩ := h2.out
    have := put_is z true m (L.length + 1) w W L' a' cap' h1.out h3 (by omega)
    rw [decide_eq_true (by omega : m ≠ 0), Bool.and_true] at this
    exact this
  obtain ⟨N, hN⟩ : ∃ N : Int, Hid (((32 * q + s : Nat) : Int) = N) := ⟨_, rfl⟩
  rw [hN.out] at HRI ⊢
  obtain ⟨n, hnl⟩ : ∃ n, Hid (L.length = n) := ⟨_, rfl⟩
  rw [hnl.out] at HMI HRI HPL HPU c1 ⊢
  have HXC : Hid (∀ W, Below w.heap.size w W → W.cell? ⟨x, 0, none⟩ = some (.bool true) ∧ W.cell? ⟨x, 1, none⟩ = some (.slice a n cap)) := fun W hW => ⟨by rw [hW.cell (p := ⟨x, 0, none⟩) hlt]; exact c0, by rw [hW.cell (p := ⟨x, 1, none⟩) hlt]; exact c1⟩
  clear hz hs hq hn hm hd hc hneg ho hcap hf hv hpos
  go_enter Tryz.func72, Tryz.ntmps72
  go_wp2_with fail
  refine (HMI.out _ _ ((Below.refl _ _).alloc (Nat.le_refl _) _) (by simp [go_sem])).mono ?_
  rintro r w1 ⟨l1, a1, k1, rfl, HM1, hb1⟩
  have HB1 : Hid (Below w.heap.size w w1) := ((Below.refl _ _).alloc (Nat.le_refl _) _).trans (hb1.mono (by simp))
  clear hb1
  go_wp2_with fail
  refine (HRI.out _ _ _ _ HM1).mono ?_
  rintro r w2 ⟨l2, a2, k2, rfl, HM2, hb2⟩
  have HB2 : Hid (Below w.heap.size w w2) := HB1.out.trans (hb2.mono HB1.out.size)
  have HM2' : Hid (∀ o, ∃ L', L'.length = l2 ∧ MagIs (m - 1) n L' a2 k2 (w2.alloc o)) := fun o => by
    obtain ⟨L', e1, h1, h2, h3, h4, h5, h6⟩ := HM2.out
    exact ⟨L', e1, h1, h2, h3.below ((Below.refl _ _).alloc (Nat.le_refl _) _), h4, h5, h6⟩
  clear hb2
  go_wp2_with fail
  refine (HPL.out _ _ _ _ _ (HM2'.out _) (by simp [go_sem])).mono ?_
  rintro r w3 ⟨l3, a3, k3, rfl, HM3, hb3⟩
  have HZ3 : Hid (ZOk z w w3) := HZ.out.below ((HB2.out.alloc HB2.out.size _).trans (hb3.mono (by have := HB2.out.size; simp; omega)))
  clear hb3
  go_wp2_with fail
  refine (HPU.out _ _ _ _ HZ3 HM3).mono ?_
  rintro r w4 ⟨rfl, HE⟩
  go_wp2
  go_ret
  exact ⟨rfl, HE.out⟩
theorem floor_neg (a P : Nat) (hP : 0 < P) (ha : 1 ≤ a) : (-(a : Int)) / (P : Int) = -((((a - 1) / P + 1 : Nat)) : Int) := by
  have h := Nat.div_add_mod (a - 1) P
  have hr := Nat.mod_lt (a - 1) hP
  obtain ⟨q, hq⟩ : ∃ q, (a - 1) / P = q := ⟨_, rfl⟩
  obtain ⟨r, hr'⟩ : ∃ r, (a - 1) % P = r := ⟨_, rfl⟩
  rw [hq, hr'] at h
  rw [hr'] at hr
  rw [hq]
  have e : -(a : Int) = ((P - 1 - r : Nat) : Int) + (P : Int) * (-((q + 1 : Nat) : Int)) := by
    have : ((P * q : Nat) : Int) = (P : Int) * (q : Int) := Int.natCast_mul _ _
    have e2 : (P : Int) * (-((q + 1 : Nat) : Int)) = -((P : Int) * (q : Int)) - (P : Int) := by
      rw [Int.natCast_add, Int.mul_neg, Int.mul_add, show ((1 : Nat) : Int) = 1 from rfl, Int.mul_one]
      omega
    rw [e2, ← this]
    omega
  rw [e, Int.add_mul_ediv_left _ _ (by omega), Int.ediv_eq_zero_of_lt (by omega) (by omega)]
  omega
/-- Rsh: the floor. -/
theorem NRshZ (z x n bd : Nat) (v : Int) (w : World) (hz : ZOk z w w) (hx : NumAt w x v bd) (hb : bd ≤ 800000) (hn : n ≤ 30000000) :
    Calls Tryz.prog 72 #[.pointer (some ⟨z, 0, none⟩), .pointer (some ⟨x, 0, none⟩), .int .u64 n] w fun r w' => r = .returned (.pointer (some ⟨z, 0, none⟩)) ∧ NumAt w' z (v / ((2 ^ n : Nat) : Int)) (bd + 1) ∧ But z w w' := by
  by_cases h : v < 0
  · obtain ⟨neg, L, hiv, hL, hB⟩ := hx
    have hneg : neg = true := (sign_natL hB).1.2 (by rw [hiv]; exact h)
    subst hneg
    have habs : natL L = v.natAbs := by rw [← hiv, intL_abs]
    have e : ((32 * (n / 32) + n % 32 : Nat) : Int) = (n : Int) := by omega
    have e2 : 32 * (n / 32) + n % 32 = n := by omega
    have := Rsh_floor z x (n / 32) (n % 32) _ L w hz hB (Nat.mod_lt _ (by decide)) (by omega) (by omega) rfl (by omega)
    rw [e, e2, habs] at this
    refine this.mono ?_
    rintro r w' ⟨rfl, L', f1, f2, f3, f4⟩
    refine ⟨rfl, ⟨true, L', ?_, by omega, f3⟩, f4⟩
    have hf := floor_neg v.natAbs (2 ^ n) (Nat.two_pow_pos n) (by omega)
    rw [show -((v.natAbs : Nat) : Int) = v by omega] at hf
    rw [hf, ← f1]
    unfold intL
    rw [if_pos rfl]
  · obtain ⟨u, hu⟩ := Int.eq_ofNat_of_zero_le (show 0 ≤ v by omega)
    subst hu
    refine (NRsh z x u n bd w hz hx (by omega) hn).mono ?_
    rintro r w' ⟨rfl, f1, f2⟩
    rw [Int.natCast_ediv] at f1
    exact ⟨rfl, f1.more (by omega), f2⟩
set_option maxRecDepth 4000 in
set_option maxHeartbeats 2000000 in
theorem Bit0_neg (x : Nat) (L : List Nat) (w : World) (h : BigAt w x true L) (hn : L.length ≤ 900000) (hpos : 1 ≤ natL L) :
    Calls Tryz.prog 165 #[.pointer (some ⟨x, 0, none⟩), .int .i64 0] w fun r w' => r = .returned (.int .u64 ((natL L % 2 : Nat) : Int)) ∧ Below w.heap.size w w' := by
  obtain ⟨a, cap, ho, hcap, hm, hd, hc, hneg⟩ := h
  obtain ⟨c0, c1, hf, hlt⟩ := int_cells ho
  have HMI : Hid (∀ W b, Below w.heap.size w W → W.cell? ⟨b, 0, none⟩ = some (.int .u32 1) → Calls Tryz.prog 121 #[.slice a L.length cap, .slice (some ⟨b, 0, none⟩) 1 1] W fun r w' => ∃ l' a' cap' d, r = .returned (.slice a' l' cap') ∧ ((l' = 0 ∧ natL L % 2 = 1) ∨ ((0 : Int) < (l' : Int) ∧ d < 4294967296 ∧ (natL L % 2 + d) % 2 = 1 ∧ ∃ b off, a' = some ⟨b, off, none⟩ ∧ b < w'.heap.size ∧ w'.cell? ⟨b, off, none⟩ = some (.int .u32 d))) ∧ Below W.heap.size W w') := fun W b hW hb => by
    refine (minus_any L [1] a (some ⟨b, 0, none⟩) cap 1 W (hm.below hW) (mag_one W b hb) hd dig_one can_one (by omega) hpos).mono ?_
    rintro r w' ⟨⟨L', a', cap', rfl, h1, h2, h3, h4, h5, h6⟩, hb'⟩
    have h6' : natL L' = natL L - 1 := h6
    by_cases h0 : L'.length = 0
    · refine ⟨L'.length, a', cap', 0, rfl, Or.inl ⟨h0, ?_⟩, hb'⟩
      rw [List.length_eq_zero_iff.1 h0] at h6'
      have : natL [] = 0 := rfl
      omega
    · obtain ⟨b2, off2, g1, g2, g3⟩ := h3 0 (by omega)
      refine ⟨L'.length, a', cap', L'.getD 0 0, rfl, Or.inr ⟨by omega, h4.get 0, ?_, b2, off2, g1, g2, g3⟩, hb'⟩
      have e1 : natL L' % 2 = L'.getD 0 0 % 2 := by
        match L', h0 with
        | d :: t, _ => show (d + 4294967296 * natL t) % 2 = d % 2; omega
      omega
  obtain ⟨n, hnl⟩ : ∃ n, Hid (L.length = n) := ⟨_, rfl⟩
  obtain ⟨z, hz⟩ : ∃ z, Hid (natL L % 2 = z) := ⟨_, rfl⟩
  have HZ2 : Hid (z < 2) := by show z < 2; rw [← hz.out]; omega
  rw [hnl.out] at c1 HMI
  rw [hz.out] at HMI ⊢
  clear hm hd hc hneg ho hcap hf hn hpos
  go_enter Tryz.func165, Tryz.ntmps165
  go_wp2_with fail
  refine (HMI.out _ _ ((Below.refl _ _).alloc (Nat.le_refl _) _) (by simp [go_sem])).mono ?_
  rintro r w1 ⟨l, a1, k1, d, rfl, hcase, hb1⟩
  have HB1 : Hid (Below w.heap.size w w1) := ((Below.refl _ _).alloc (Nat.le_refl _) _).trans (hb1.mono (by simp))
  have x0 : w1.cell? ⟨x, 0, none⟩ = some (.bool true) := by rw [HB1.out.cell (p := ⟨x, 0, none⟩) hlt]; exact c0
  clear hb1
  rcases hcase with ⟨rfl, hz1⟩ | ⟨hl0, hdl, hpar, b, off, rfl, hbl, hc0⟩
  · subst hz1
    go_wp2
    go_ret
    exact ⟨rfl, HB1.out⟩
  · have hand : bits .and .u32 (d : Int) 1 = ((d % 2 : Nat) : Int) := by
      rw [show (1 : Int) = ((1 : Nat) : Int) from rfl, u32_and_nat d 1 hdl (by decide), Nat.and_one_is_mod]
    obtain ⟨y, hy⟩ : ∃ y, Hid (d % 2 = y) := ⟨_, rfl⟩
    rw [hy.out] at hand
    have hzy : z + y = 1 := by have := HZ2.out; have := hy.out; omega
    have hw1 : IntKind.u32.wrap (1 - (y : Int)) = (z : Int) := by rw [IntKind.wrap_u32]; omega
    have hw2 : IntKind.u64.wrap (z : Int) = (z : Int) := by rw [IntKind.wrap_u64]; omega
    clear hpar hdl hzy
    go_wp2
    go_ret
    exact ⟨rfl, HB1.out⟩
/-- Bit(0): whether it is odd. -/
theorem NBit0Z (x bd : Nat) (v : Int) (w : World) (hx : NumAt w x v bd) (hb : bd ≤ 900000) :
    Calls Tryz.prog 165 #[.pointer (some ⟨x, 0, none⟩), .int .i64 0] w fun r w' => r = .returned (.int .u64 (v % 2)) ∧ Below w.heap.size w w' := by
  by_cases h : v < 0
  · obtain ⟨neg, L, hiv, hL, hB⟩ := hx
    have hneg : neg = true := (sign_natL hB).1.2 (by rw [hiv]; exact h)
    subst hneg
    have habs : natL L = v.natAbs := by rw [← hiv, intL_abs]
    refine (Bit0_neg x L w hB (by omega) (by omega)).mono ?_
    rintro r w' ⟨rfl, hb'⟩
    rw [habs]
    exact ⟨by rw [show ((v.natAbs % 2 : Nat) : Int) = v % 2 by omega], hb'⟩
  · obtain ⟨u, hu⟩ := Int.eq_ofNat_of_zero_le (show 0 ≤ v by omega)
    subst hu
    refine (NBit0 x u bd w hx hb).mono ?_
    rintro r w' ⟨rfl, m, rfl⟩
    exact ⟨by rw [show ((u % 2 : Nat) : Int) = (u : Int) % 2 by omega], bl_drewN _ (Below.refl _ _)⟩
end Go.Proofs.YtehnkgonhgjeiaaGreatDoor

namespace Go.Proofs.YtehnkgonhgjeiaaGreatDoor
open Go.RowKit Go.IntWalk

/-- v over 2^n, the nearest whole number, of two the even one. -/
def nearZ (v : Int) (n : Nat) : Int :=
  if v % ((2 ^ n : Nat) : Int) = 0 then v / ((2 ^ n : Nat) : Int)
  else if ((2 ^ n : Nat) : Int) < 2 * (v % ((2 ^ n : Nat) : Int)) ∨ (((2 ^ n : Nat) : Int) = 2 * (v % ((2 ^ n : Nat) : Int)) ∧ v / ((2 ^ n : Nat) : Int) % 2 = 1) then v / ((2 ^ n : Nat) : Int) + 1 else v / ((2 ^ n : Nat) : Int)
theorem zcmp_gt {a b : Int} (h : b < a) : cmpZ a b = 1 := by unfold cmpZ; split <;> (try split) <;> omega
theorem zcmp_eq {a b : Int} (h : a = b) : cmpZ a b = 0 := by unfold cmpZ; split <;> (try split) <;> omega
theorem zcmp_lt {a b : Int} (h : a < b) : cmpZ a b = -1 := by unfold cmpZ; split <;> (try split) <;> omega
def IntZ : Obj := .cells #[.bool false, .slice none 0 0] 90
theorem zok_two (w : World) : ZOk (w.heap.size + 1) ((w.alloc IntZ).alloc IntZ) ((w.alloc IntZ).alloc IntZ) := by
  have := fresh_zok (w.alloc IntZ)
  rw [show (w.alloc IntZ).heap.size = w.heap.size + 1 by simp] at this
  exact this
theorem zok_old {z : Nat} {w w' : World} (h : w.heap[z]? = some IntZ) (hb : Below w.heap.size w w') : ZOk z w' w' := ⟨But.refl _ _, false, none, 0, 0, by rw [hb.block z (Array.getElem?_eq_some_iff.1 h).1]; exact h⟩
set_option maxRecDepth 4000 in
set_option maxHeartbeats 2000000 in
theorem xNear_up (p bd k : Nat) (v : Int) (w : World) (hx : NumAt w p v bd) (hbd : bd ≤ 700000) (hk : k ≤ 1000000) :
    Calls Tryz.prog 135 #[.pointer (some ⟨p, 0, none⟩), .int .i64 (-(k : Int)), .int .i64 0] w fun r w' => ∃ q, r = .returned (.pointer (some ⟨q, 0, none⟩)) ∧ NumAt w' q (v * 2 ^ k) (k / 32 + bd + 1) ∧ Below w.heap.size w w' := by
  have HX := hid (hx.below ((Below.refl w.heap.size w).alloc (Nat.le_refl _) IntZ))
  have hle : -(k : Int) ≤ 0 := by omega
  have hw1 : IntKind.i64.wrap (k : Int) = (k : Int) := by rw [IntWalk.i64_in _ (by omega)]
  have hw2 : IntKind.u64.wrap (k : Int) = (k : Int) := by rw [IntKind.wrap_u64]; omega
  clear hx
  unfold IntZ at HX
  go_enter Tryz.func135, Tryz.ntmps135
  go_wp2_with fail
  refine (NLsh w.heap.size p v k bd _ (fresh_zok w) HX.out (by omega) (by omega)).mono ?_
  rintro r w1 ⟨rfl, hn1, hb1⟩
  have HN1 := hid hn1
  have HB1 := hid (fresh_below hb1)
  clear hn1 hb1
  go_wp2
  go_ret
  exact ⟨_, rfl, HN1.out, HB1.out⟩
set_option maxRecDepth 4000 in
set_option maxHeartbeats 4000000 in
theorem xNear_down (p bd n : Nat) (v : Int) (w : World) (hx : NumAt w p v bd) (hbd : bd ≤ 300000) (hn1 : 1 ≤ n) (hn2 : n ≤ 1000000) :
    Calls Tryz.prog 135 #[.pointer (some ⟨p, 0, none⟩), .int .i64 (n : Int), .int .i64 0] w fun r w' => ∃ q, r = .returned (.pointer (some ⟨q, 0, none⟩)) ∧ NumAt w' q (nearZ v n) (bd + 40000) ∧ Below w.heap.size w w' := by
  have HX := hid hx
  obtain ⟨P, hP⟩ : ∃ P : Nat, Hid ((2 : Nat) ^ n = P) := ⟨_, rfl⟩
  obtain ⟨L, hL⟩ : ∃ L : Int, Hid (v / (P : Int) = L) := ⟨_, rfl⟩
  obtain ⟨R, hR⟩ : ∃ R : Int, Hid (v - L * 2 ^ n = R) := ⟨_, rfl⟩
  obtain ⟨H, hH⟩ : ∃ H : Int, Hid (((1 : Nat) : Int) * 2 ^ (n - 1) = H) := ⟨_, rfl⟩
  have HPP : Hid (0 < P) := by show 0 < P; rw [← hP.out]; exact Nat.two_pow_pos n
  have HRM : Hid (v % (P : Int) = R) := by
    have h1 := Int.emod_add_mul_ediv v (P : Int)
    have e : (2 : Int) ^ n = (P : Int) := by rw [← hP.out, Int.natCast_pow]; rfl
    show v % (P : Int) = R
    rw [← hR.out, e, ← hL.out, Int.mul_comm]
    omega
  have HHF : Hid ((P : Int) = 2 * H) := by
    show (P : Int) = 2 * H
    rw [← hH.out, ← hP.out, Int.natCast_pow]
    obtain ⟨m, rfl⟩ : ∃ m, n = m + 1 := ⟨n - 1, by omega⟩
    rw [Nat.add_sub_cancel, Int.pow_succ, show ((1 : Nat) : Int) = 1 from rfl, Int.one_mul, Int.mul_comm]
    rfl
  have HNZ : Hid (nearZ v n = if R = 0 then L else if (P : Int) < 2 * R ∨ ((P : Int) = 2 * R ∧ L % 2 = 1) then L + 1 else L) := by
    show nearZ v n = _
    unfold nearZ
    rw [hP.out, HRM.out, hL.out]
  have hgt : ¬ (n : Int) ≤ 0 := by omega
  have hw1 : IntKind.u64.wrap (n : Int) = (n : Int) := by rw [IntKind.wrap_u64]; omega
  have hw2 : IntKind.i64.wrap ((n : Int) - 1) = ((n - 1 : Nat) : Int) := by rw [IntWalk.i64_in _ (by omega)]; omega
  have hw2' : (n : Int) - 1 = ((n - 1 : Nat) : Int) := by omega
  have hw3 : IntKind.u64.wrap ((n - 1 : Nat) : Int) = ((n - 1 : Nat) : Int) := by rw [IntKind.wrap_u64]; omega
  have hw4 : wrap64 ((n - 1 : Nat) : Int) = ((n - 1 : Nat) : Int) := by unfold wrap64; omega
  have hw5 : wrap64 (n : Int) = (n : Int) := by unfold wrap64; omega
  obtain ⟨n1, hn1'⟩ : ∃ n1, Hid (n - 1 = n1) := ⟨_, rfl⟩
  have HN12 : Hid (n1 ≤ 1000000) := by have := hn1'.out; show n1 ≤ _; omega
  rw [hn1'.out] at hw2 hw2' hw3 hw4 hH
  have HN2 := hid hn2
  have HBD := hid hbd
  have hn0 : 0 < n := hn1
  clear hx hn1 hn2 hbd
  go_enter Tryz.func135, Tryz.ntmps135
  go_wp2_with fail
  refine (NRshZ w.heap.size p n bd v _ (fresh_zok w) (HX.out.below ((Below.refl w.heap.size w).alloc (Nat.le_refl _) _)) (by have := HBD.out; omega) (by have := HN2.out; omega)).mono ?_
  rw [hP.out, hL.out]
  rintro r w1 ⟨rfl, hq1, hb1⟩
  have HB1 := hid (fresh_below hb1)
  have HL1 := hid hq1
  have HX1 := hid (HX.out.below HB1.out)
  have HS1 : Hid (w.heap.size < w1.heap.size) := by have := hb1.size; simp at this; show _ < _; omega
  clear hq1 hb1
  -- low * 2^n
  have hal1 : Below w1.heap.size w1 ((w1.alloc IntZ).alloc IntZ) := ((Below.refl _ _).alloc (Nat.le_refl _) _).alloc (by simp) _
  have HZ1 := hid (zok_two w1)
  have HZA : Hid (((w1.alloc IntZ).alloc IntZ).heap[w1.heap.size]? = some IntZ) := (two_blk w1 IntZ IntZ).1
  have HSA : Hid (((w1.alloc IntZ).alloc IntZ).heap.size = w1.heap.size + 2) := by show ((w1.alloc IntZ).alloc IntZ).heap.size = _; simp
  have HLA := hid (HL1.out.below hal1)
  have HAL := hid hal1
  clear hal1
  unfold IntZ at HZ1 HZA HSA HLA HAL
  obtain ⟨W1, hW1⟩ : ∃ V, Hid ((w1.alloc (.cells #[.bool false, .slice none 0 0] 90)).alloc (.cells #[.bool false, .slice none 0 0] 90) = V) := ⟨_, rfl⟩
  rw [hW1.out] at HZ1 HZA HSA HLA HAL
  go_wp2_with fail
  rw [hW1.out]
  refine (NLsh (w1.heap.size + 1) w.heap.size L n (bd + 1) _ HZ1.out HLA.out (by have := HBD.out; omega) (by have := HN2.out; omega)).mono ?_
  rintro r w2 ⟨rfl, hq2, hb2⟩
  have HB2 : Hid (Below w1.heap.size w1 w2) := HAL.out.trans (hb2.below (by have := HSA.out; omega) (by omega))
  have HZ2 : Hid (ZOk w1.heap.size w2 w2) := ⟨But.refl _ _, false, none, 0, 0, by rw [hb2.block _ (by have := HSA.out; omega) (by omega)]; exact HZA.out⟩
  have HQ2 := hid hq2
  have HX2 := hid (HX1.out.below HB2.out)
  have HL2 := hid (HL1.out.below HB2.out)
  have HPN : Hid (p < w1.heap.size) := by obtain ⟨_, _, _, _, a, cap, ho, _⟩ := HX1.out; exact (Array.getElem?_eq_some_iff.1 ho).1
  clear hq2 hb2
  go_wp2_with fail
  refine (NSub w1.heap.size p (w1.heap.size + 1) v (L * 2 ^ n) bd _ _ HZ2.out (by have := HPN.out; omega) (by omega) HX2.out HQ2.out (by have := HBD.out; omega) (by have := HBD.out; have := HN2.out; omega)).mono ?_
  rw [hR.out]
  rintro r w3 ⟨rfl, hq3, hb3⟩
  have HB3 : Hid (Below w1.heap.size w1 w3) := HB2.out.trans (hb3.below HB2.out.size (Nat.le_refl _))
  have HR3 := hid hq3
  have HL3 := hid (HL1.out.below HB3.out)
  have HBW3 : Hid (Below w.heap.size w w3) := HB1.out.trans (HB3.out.mono HB1.out.size)
  clear hq3 hb3
  by_cases c0 : R = 0
  · have hs0 : sgnZ R = 0 := by rw [c0]; rfl
    have HF : Hid (NumAt w3 w.heap.size (nearZ v n) (bd + 40000)) := by rw [HNZ.out, if_pos c0]; exact HL3.out.more (by omega)
    go_wp2_with fail
    refine (NSign w1.heap.size R _ _ HR3.out).mono ?_
    rw [hs0]
    rintro r w4 ⟨rfl, rfl⟩
    go_wp2
    go_ret
    exact ⟨_, rfl, HF.out, HBW3.out⟩
  · have hs0 : (sgnZ R == 0) = false := by
      have : sgnZ R ≠ 0 := by unfold sgnZ; split <;> (try split) <;> omega
      simpa using this
    obtain ⟨sg, hsg⟩ : ∃ s, Hid (sgnZ R = s) := ⟨_, rfl⟩
    rw [hsg.out] at hs0
    have HR0 := hid c0
    clear c0
    go_wp2_with fail
    refine (NSign w1.heap.size R _ _ HR3.out).mono ?_
    rw [hsg.out]
    rintro r w4 ⟨rfl, rfl⟩
    -- high
    have hal4 : Below w4.heap.size w4 (w4.alloc IntZ) := (Below.refl _ _).alloc (Nat.le_refl _) _
    have HZ4 : Hid ((w4.alloc IntZ).heap[w4.heap.size]? = some IntZ) := new_blk _ _ _ rfl
    have HAL4 := hid hal4
    clear hal4
    unfold IntZ at HZ4 HAL4
    go_wp2_with fail
    refine (NNew 1 _ (by decide)).mono ?_
    rintro r w5 ⟨rfl, hq5, hb5⟩
    have HZ5 := hid (zok_old HZ4.out hb5)
    have HB5 : Hid (Below w4.heap.size w4 w5) := HAL4.out.trans (hb5.mono (by simp))
    have HQ5 := hid hq5
    have HL5 := hid (HL3.out.below HB5.out)
    have HR5 := hid (HR3.out.below HB5.out)
    have HLN : Hid (w.heap.size < w4.heap.size) := by have := HB3.out.size; have := HS1.out; show _ < _; omega
    have hs5 : (w4.alloc (.cells #[.bool false, .slice none 0 0] 90)).heap.size = w4.heap.size + 1 := by simp
    rw [hs5] at HQ5
    clear hq5 hb5 hs5
    go_wp2_with fail
    refine (NAdd w4.heap.size w.heap.size (w4.heap.size + 1) L ((1 : Nat) : Int) (bd + 1) 2 _ HZ5.out (Or.inr ⟨by have := HLN.out; omega, by omega⟩) HL5.out HQ5.out (by have := HBD.out; omega) (by decide)).mono ?_
    rintro r w6 ⟨rfl, hq6, hb6⟩
    have HB6 : Hid (Below w4.heap.size w4 w6) := HB5.out.trans (hb6.below HB5.out.size (Nat.le_refl _))
    have HG6 := hid hq6
    have HL6 := hid (HL3.out.below HB6.out)
    have HR6 := hid (HR3.out.below HB6.out)
    clear hq6 hb6
    -- half
    have hal6 : Below w6.heap.size w6 (w6.alloc IntZ) := (Below.refl _ _).alloc (Nat.le_refl _) _
    have HZ6 : Hid ((w6.alloc IntZ).heap[w6.heap.size]? = some IntZ) := new_blk _ _ _ rfl
    have HAL6 := hid hal6
    clear hal6
    unfold IntZ at HZ6 HAL6
    go_wp2_with fail
    refine (NNew 1 _ (by decide)).mono ?_
    rintro r w7 ⟨rfl, hq7, hb7⟩
    have HZ7 := hid (zok_old HZ6.out hb7)
    have HB7 : Hid (Below w6.heap.size w6 w7) := HAL6.out.trans (hb7.mono (by simp))
    have HQ7 := hid hq7
    rw [show (w6.alloc (.cells #[.bool false, .slice none 0 0] 90)).heap.size = w6.heap.size + 1 by simp] at HQ7
    clear hq7 hb7
    go_wp2_with fail
    refine (NLsh w6.heap.size (w6.heap.size + 1) ((1 : Nat) : Int) n1 2 _ HZ7.out HQ7.out (by decide) (by have := HN12.out; omega)).mono ?_
    rw [hH.out]
    rintro r w8 ⟨rfl, hq8, hb8⟩
    have HB8 : Hid (Below w6.heap.size w6 w8) := HB7.out.trans (hb8.below HB7.out.size (Nat.le_refl _))
    have HQ8 := hid hq8
    have HR8 := hid (HR6.out.below HB8.out)
    clear hq8 hb8
    go_wp2_with fail
    refine (NCmp w1.heap.size w6.heap.size R H _ _ _ HR8.out HQ8.out (by have := HBD.out; have := HN2.out; omega) (by have := HN12.out; omega)).mono ?_
    rintro r w9 ⟨rfl, hb9⟩
    have HB9 : Hid (Below w6.heap.size w6 w9) := HB8.out.trans (hb9.mono HB8.out.size)
    have HL9 := hid (HL6.out.below HB9.out)
    have HG9 := hid (HG6.out.below HB9.out)
    have HBW9 : Hid (Below w.heap.size w w9) := by
      have h6 : Below w.heap.size w w6 := HBW3.out.trans (HB6.out.mono HBW3.out.size)
      exact h6.trans (HB9.out.mono h6.size)
    clear hb9
    rcases Int.lt_trichotomy R H with c | c | c
    · rw [zcmp_lt c]
      have HF : Hid (NumAt w9 w.heap.size (nearZ v n) (bd + 40000)) := by
        rw [HNZ.out, if_neg HR0.out, if_neg (by have := HHF.out; omega)]; exact HL9.out.more (by omega)
      clear c
      go_wp2
      go_ret
      exact ⟨_, rfl, HF.out, HBW9.out⟩
    · rw [zcmp_eq c]
      go_wp2_with fail
      refine (NBit0Z w.heap.size _ L _ HL9.out (by have := HBD.out; omega)).mono ?_
      rintro r w10 ⟨rfl, hb10⟩
      have HBW10 : Hid (Below w.heap.size w w10) := HBW9.out.trans (hb10.mono HBW9.out.size)
      have HL10 := hid (HL9.out.below hb10)
      have HG10 := hid (HG9.out.below hb10)
      clear hb10
      by_cases d : L % 2 = 1
      · have HF : Hid (NumAt w10 w4.heap.size (nearZ v n) (bd + 40000)) := by
          rw [HNZ.out, if_neg HR0.out, if_pos (Or.inr ⟨by have := HHF.out; omega, d⟩)]; exact HG10.out.more (by omega)
        rw [d]
        clear c d
        go_wp2
        go_ret
        exact ⟨_, rfl, HF.out, HBW10.out⟩
      · have HF : Hid (NumAt w10 w.heap.size (nearZ v n) (bd + 40000)) := by
          rw [HNZ.out, if_neg HR0.out, if_neg (by have := HHF.out; omega)]; exact HL10.out.more (by omega)
        have e : L % 2 = 0 := by omega
        rw [e]
        clear c d e
        go_wp2
        go_ret
        exact ⟨_, rfl, HF.out, HBW10.out⟩
    · rw [zcmp_gt c]
      have HF : Hid (NumAt w9 w4.heap.size (nearZ v n) (bd + 40000)) := by
        rw [HNZ.out, if_neg HR0.out, if_pos (Or.inl (by have := HHF.out; omega))]; exact HG9.out.more (by omega)
      clear c
      go_wp2
      go_ret
      exact ⟨_, rfl, HF.out, HBW9.out⟩
end Go.Proofs.YtehnkgonhgjeiaaGreatDoor
