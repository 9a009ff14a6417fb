
/- What math/bits' Div64 does. -/
import Derived.Test.YtfdphegiafccpabP9
import Derived.Deep.QuietTactic
namespace Go.Proofs.Ytfdphegiafccpab
open Go.RowKit Go.IntWalk

set_option maxHeartbeats 1000000 in
theorem Div64_low (lo y : Nat) (w : World) (hl : lo < 18446744073709551616) (hy : y < 18446744073709551616) (h0 : 0 < y) :
    Calls Try.prog 27 #[.int .u64 0, .int .u64 lo, .int .u64 y] w fun r w' => r = .returned (.tuple #[.int .u64 ((lo / y : Nat) : Int), .int .u64 ((lo % y : Nat) : Int)]) ∧ ∃ m, w' = w.drewN m := by
  have hy0 : ((y : Int) == 0) = false := by simp; omega
  have hyn : ¬ y = 0 := by omega
  have hle : ¬ ((y : Int) ≤ 0) := by omega
  have hq2 := Nat.div_le_self lo y
  have hr2 := Nat.mod_le lo y
  obtain ⟨q, hq⟩ : ∃ q, Hid (lo / y = q) := ⟨_, rfl⟩
  obtain ⟨r, hr⟩ : ∃ r, Hid (lo % y = r) := ⟨_, rfl⟩
  rw [hq.out] at hq2 ⊢
  rw [hr.out] at hr2 ⊢
  have h1 : (lo : Int).tdiv (y : Int) = (q : Int) := by rw [← hq.out]; exact (Int.ofNat_tdiv lo y).symm
  have h2 : (lo : Int).tmod (y : Int) = (r : Int) := by rw [← hr.out]; exact (Int.ofNat_tmod lo y).symm
  have w1 := ck_in q (by omega)
  have w2 := ck_in r (by omega)
  go_enter Try.func27, Try.ntmps27
  go_wp2
  go_quiet (fail)
  go_wp2
  go_ret2
  exact ⟨rfl, _, rfl⟩
theorem ck_sub (u q y r : Nat) (h : q * y + r = u) (hu : u < 18446744073709551616) : IntKind.u64.wrap ((u : Int) - IntKind.u64.wrap ((q : Int) * (y : Int))) = (r : Int) := by
  have e : ((q * y : Nat) : Int) = (q : Int) * (y : Int) := Int.natCast_mul q y
  rw [← e, ck_in _ (by omega), IntKind.wrap_u64]
  omega
/-- What is left behind a digit, as the words have it. -/
theorem ck_rest (u d y q r : Nat) (h0 : 0 < y) (hy : y < 18446744073709551616) (hq : q = (u * 4294967296 + d) / y) (hr : r = (u * 4294967296 + d) % y) :
    IntKind.u64.wrap (IntKind.u64.wrap (IntKind.u64.wrap ((u : Int) * 4294967296) + (d : Int)) - IntKind.u64.wrap ((q : Int) * (y : Int))) = (r : Int) := by
  rcases dig_rest u d y q hy hq with h | h
  · rw [← hr] at h
    simp only [IntKind.wrap_u64] at *
    generalize (q : Int) * (y : Int) = z at *
    omega
  · omega
set_option maxRecDepth 4000 in
set_option maxHeartbeats 4000000 in
theorem Div64_high (hi lo y s Y A C k u l y1 y0 d1 d0 Q R : Nat) (w : World) (hhi : 0 < hi) (hlt : hi < y) (hy : y < 18446744073709551616)
    (hs : s + bitLen y = 64) (hY : y * 2 ^ s = Y) (hYl : 9223372036854775808 ≤ Y) (hYu : Y < 18446744073709551616) (hA : hi * 2 ^ s = A) (hAu : A < 18446744073709551616) (hC : lo / 2 ^ k = C) (hk : s + k = 64)
    (hor : bits .or .u64 (A : Int) (C : Int) = (u : Int)) (hu : u < Y) (hls : lo * 2 ^ s % 18446744073709551616 = l) (hll : l < 18446744073709551616)
    (hy1 : Y / 4294967296 = y1) (hy0 : Y % 4294967296 = y0) (hd1 : l / 4294967296 = d1) (hd0 : l % 4294967296 = d0) (hQ : (u * 18446744073709551616 + l) / Y = Q) (hR : (u * 18446744073709551616 + l) % Y / 2 ^ s = R) (hQu : Q < 18446744073709551616) :
    Calls Try.prog 27 #[.int .u64 hi, .int .u64 lo, .int .u64 y] w fun r w' => r = .returned (.tuple #[.int .u64 (Q : Int), .int .u64 (R : Int)]) ∧ w' = w := by
  have HLZ := hid (lz_any y s w hy hs)
  have c1 : ((y : Int) == 0) = false := by simp; omega
  have c2 : ¬ ((y : Int) ≤ (hi : Int)) := by omega
  have c3 : ((hi : Int) == 0) = false := by simp; omega
  have hs64 : s ≤ 64 := by omega
  have c4 := ck_in s (by omega)
  have cm : min s 64 = s := Nat.min_eq_left hs64
  have ck : min k 64 = k := Nat.min_eq_left (by omega)
  have c5 : IntKind.u64.wrap ((y : Int) * 2 ^ s) = (Y : Int) := by
    rw [show ((y : Int) * 2 ^ s) = ((y * 2 ^ s : Nat) : Int) by rw [Int.natCast_mul, Int.natCast_pow]; rfl, hY, ck_in _ hYu]
  have c6 : IntKind.u64.wrap ((hi : Int) * 2 ^ s) = (A : Int) := by
    rw [show ((hi : Int) * 2 ^ s) = ((hi * 2 ^ s : Nat) : Int) by rw [Int.natCast_mul, Int.natCast_pow]; rfl, hA, ck_in _ hAu]
  have c7 : IntKind.u64.wrap ((lo : Int) * 2 ^ s) = (l : Int) := by
    rw [show ((lo : Int) * 2 ^ s) = ((lo * 2 ^ s : Nat) : Int) by rw [Int.natCast_mul, Int.natCast_pow]; rfl, ck_wrap, hls]
  have c8 : IntKind.u64.wrap (64 - (s : Int)) = (k : Int) := by rw [IntKind.wrap_u64]; omega
  have c9 : (lo : Int) / 2 ^ k = (C : Int) := by
    rw [show ((lo : Int) / 2 ^ k) = ((lo / 2 ^ k : Nat) : Int) by rw [Int.natCast_ediv, Int.natCast_pow]; rfl, hC]
  have e1 : (Y : Int) / 4294967296 = (y1 : Int) := by omega
  have e2 : bits .and .u64 (Y : Int) 4294967295 = (y0 : Int) := by rw [ck_low32 Y hYu, hy0]
  have e3 : (l : Int) / 4294967296 = (d1 : Int) := by omega
  have e4 : bits .and .u64 (l : Int) 4294967295 = (d0 : Int) := by rw [ck_low32 l hll, hd0]
  have hy1n : ¬ y1 = 0 := by omega
  have HYS : Hid (y1 * 4294967296 + y0 = Y) := hid (by omega)
  have HY1 : Hid (0 < y1) := hid (by omega)
  have HY0 : Hid (y0 < 4294967296) := hid (by omega)
  have HYp : Hid (0 < Y) := hid (by omega)
  have hy1l : 2147483648 ≤ y1 := by omega
  have hy1u : y1 ≤ 4294967295 := by omega
  have HB1 : Hid (d1 < 4294967296) := hid (by omega)
  have HB2 : Hid (d0 < 4294967296) := hid (by omega)
  have HU1 : Hid (u < y1 * 4294967296 + y0) := hid (by omega)
  have HD1 : Hid (DigI u d1 y1 y0 (u / y1) (u % y1)) := hid (DigI.start u d1 y1 y0 (by omega) hy1l (by omega) (by omega) (by omega))
  have f1 : (u : Int).tdiv (y1 : Int) = ((u / y1 : Nat) : Int) := (Int.ofNat_tdiv u y1).symm
  have f2 := ck_sub u (u / y1) y1 (u % y1) (by rw [Nat.mul_comm]; exact Nat.div_add_mod u y1) (by omega)
  have f3 := ck_in (u / y1) (by have := Nat.div_le_self u y1; omega)
  obtain ⟨qs, hqs⟩ : ∃ t, Hid (u / y1 = t) := ⟨_, rfl⟩
  obtain ⟨rs, hrs⟩ : ∃ t, Hid (u % y1 = t) := ⟨_, rfl⟩
  rw [hqs.out] at f1 f2 f3 HD1
  rw [hrs.out] at f2 HD1
  obtain ⟨R2, hR2⟩ : ∃ t, (u * 18446744073709551616 + l) % Y = t := ⟨_, rfl⟩
  rw [hR2] at hR
  have HLL : Hid (u * 18446744073709551616 + d1 * 4294967296 + d0 = u * 18446744073709551616 + l) := hid (by omega)
  have HQQ := hid hQ
  have HRR := hid hR2
  have HQU := hid hQu
  have gS : (R2 : Int) / 2 ^ s = (R : Int) := by
    rw [show ((R2 : Int) / 2 ^ s) = ((R2 / 2 ^ s : Nat) : Int) by rw [Int.natCast_ediv, Int.natCast_pow]; rfl, hR]
  clear hY hA hC hls hQ hR hR2 hy1 hy0 hd1 hd0 hQu
  go_enter Try.func27, Try.ntmps27
  go_wp2_with fail
  refine HLZ.out.mono ?_
  rintro r w1 ⟨rfl, hw⟩
  rw [hw]
  clear hw
  go_wp2
  go_loopw [15, 16] (fun qv rv wr => ∃ (q r : Nat) (k x : Int), qv = .int .u64 k ∧ rv = .int .u64 x ∧ Hid (DigI u d1 y1 y0 q r) ∧ wr = w ∧ Hid (x = (r : Int)) ∧ Hid (k = (q : Int))) (fun qv _ _ => (intOf qv).toNat)
  case atStart => exact ⟨_, _, _, _, rfl, rfl, HD1, rfl, rfl, rfl⟩
  case round =>
    obtain ⟨q1, r1, k1, x1, rfl, rfl, HI1, hw, HX1, HK1⟩ := hrel
    rw [hw]
    clear hw
    have htop := HI1.out.top
    have hrem := HI1.out.rem
    by_cases hbig : 4294967296 ≤ k1
    · have HC1 : Hid (4294967296 ≤ q1 ∨ 4294967296 * r1 + d1 < q1 * y0) := hid (.inl (by have := HK1.out; omega))
      have m1 := (HI1.out.more HU1.out HB1.out HC1.out).1
      have hq1 : IntKind.u64.wrap (k1 - 1) = ((q1 - 1 : Nat) : Int) := by have := HK1.out; rw [IntKind.wrap_u64]; omega
      have hq2 : k1 - 1 = ((q1 - 1 : Nat) : Int) := by have := HK1.out; omega
      have hr1 : IntKind.u64.wrap (x1 + (y1 : Int)) = ((r1 + y1 : Nat) : Int) := by have := HX1.out; rw [IntKind.wrap_u64]; omega
      have hr2 : x1 + (y1 : Int) = ((r1 + y1 : Nat) : Int) := by have := HX1.out; omega
      by_cases hs1 : r1 + y1 < 4294967296
      · have HN := hid (HI1.out.next HU1.out HB1.out HC1.out hs1)
        obtain ⟨p1, hp1⟩ : ∃ t, Hid (q1 - 1 = t) := ⟨_, rfl⟩
        obtain ⟨v1, hv1⟩ : ∃ t, Hid (r1 + y1 = t) := ⟨_, rfl⟩
        have HMM : Hid (p1 < q1) := hid (by have := hp1.out; omega)
        rw [hp1.out] at hq1 hq2 HN
        obtain ⟨j1, hj1⟩ : ∃ t : Int, Hid (t = (p1 : Int)) := ⟨_, rfl⟩
        rw [← hj1.out] at hq1 hq2
        have hq3 : IntKind.u64.wrap j1 = j1 := by rw [← hq2]; exact hq1.trans hq2.symm
        rw [hv1.out] at hr1 hr2 hs1 HN
        obtain ⟨g1, hg1⟩ : ∃ t : Int, Hid (t = (v1 : Int)) := ⟨_, rfl⟩
        rw [← hg1.out] at hr1 hr2
        have hr3 : IntKind.u64.wrap g1 = g1 := by rw [← hr2]; exact hr1.trans hr2.symm
        have hs2 : ¬ 4294967296 ≤ g1 := by have := hg1.out; omega
        clear hs1 htop hrem m1
        try clear hqy hBD
        go_wp2
        go_roundw
        case rel => exact ⟨p1, v1, j1, g1, rfl, rfl, HN, trivial, hg1, hj1⟩
        case measure => have := HMM.out; have := hj1.out; have := HK1.out; simp [intOf]; omega
      · have HQ1 := hid (HI1.out.stop HU1.out HB1.out HY0.out HC1.out (by omega))
        obtain ⟨p1, hp1⟩ : ∃ t, Hid (q1 - 1 = t) := ⟨_, rfl⟩
        obtain ⟨v1, hv1⟩ : ∃ t, Hid (r1 + y1 = t) := ⟨_, rfl⟩
        rw [hp1.out] at hq1 hq2 HQ1
        obtain ⟨j1, hj1⟩ : ∃ t : Int, Hid (t = (p1 : Int)) := ⟨_, rfl⟩
        rw [← hj1.out] at hq1 hq2
        have hq3 : IntKind.u64.wrap j1 = j1 := by rw [← hq2]; exact hq1.trans hq2.symm
        rw [hv1.out] at hr1 hr2 hs1
        obtain ⟨g1, hg1⟩ : ∃ t : Int, Hid (t = (v1 : Int)) := ⟨_, rfl⟩
        rw [← hg1.out] at hr1 hr2
        have hr3 : IntKind.u64.wrap g1 = g1 := by rw [← hr2]; exact hr1.trans hr2.symm
        have hs2 : 4294967296 ≤ g1 := by have := hg1.out; omega
        clear hs1 htop hrem m1
        try clear hqy hBD
        rw [HYS.out] at HQ1
        obtain ⟨R1, hR1⟩ : ∃ t, (u * 4294967296 + d1) % Y = t := ⟨_, rfl⟩
        have HR1 := hid hR1.symm
        have hR1Y : R1 < Y := by rw [← hR1]; exact Nat.mod_lt _ HYp.out
        clear hR1
        have gr := ck_rest u d1 Y p1 R1 HYp.out hYu HQ1.out HR1.out
        rw [← hj1.out] at gr
        have HU2 : Hid (R1 < y1 * 4294967296 + y0) := hid (by rw [HYS.out]; exact hR1Y)
        have HD2 := hid (DigI.start R1 d0 y1 y0 HU2.out hy1l (by omega) HY0.out HB2.out)
        have g1 : (R1 : Int).tdiv (y1 : Int) = ((R1 / y1 : Nat) : Int) := (Int.ofNat_tdiv R1 y1).symm
        have g2 := ck_sub R1 (R1 / y1) y1 (R1 % y1) (by rw [Nat.mul_comm]; exact Nat.div_add_mod R1 y1) (by omega)
        have g3 := ck_in (R1 / y1) (by have := Nat.div_le_self R1 y1; omega)
        obtain ⟨qs2, hqs2⟩ : ∃ t, Hid (R1 / y1 = t) := ⟨_, rfl⟩
        obtain ⟨rs2, hrs2⟩ : ∃ t, Hid (R1 % y1 = t) := ⟨_, rfl⟩
        rw [hqs2.out] at g1 g2 g3 HD2
        rw [hrs2.out] at g2 HD2
        go_wp2
        go_loopw [18, 16] (fun qv rv wr => ∃ (q r : Nat) (k x : Int), qv = .int .u64 k ∧ rv = .int .u64 x ∧ Hid (DigI R1 d0 y1 y0 q r) ∧ wr = w ∧ Hid (x = (r : Int)) ∧ Hid (k = (q : Int))) (fun qv _ _ => (intOf qv).toNat)
        case atStart => exact ⟨_, _, _, _, rfl, rfl, HD2, rfl, rfl, rfl⟩
        case round =>
          obtain ⟨q2, r2, k2, x2, rfl, rfl, HI2, hw, HX2, HK2⟩ := hrel
          rw [hw]
          clear hw
          have htop := HI2.out.top
          have hrem := HI2.out.rem
          by_cases hbig : 4294967296 ≤ k2
          · have HC2 : Hid (4294967296 ≤ q2 ∨ 4294967296 * r2 + d0 < q2 * y0) := hid (.inl (by have := HK2.out; omega))
            have m1 := (HI2.out.more HU2.out HB2.out HC2.out).1
            have hq1 : IntKind.u64.wrap (k2 - 1) = ((q2 - 1 : Nat) : Int) := by have := HK2.out; rw [IntKind.wrap_u64]; omega
            have hq2 : k2 - 1 = ((q2 - 1 : Nat) : Int) := by have := HK2.out; omega
            have hr1 : IntKind.u64.wrap (x2 + (y1 : Int)) = ((r2 + y1 : Nat) : Int) := by have := HX2.out; rw [IntKind.wrap_u64]; omega
            have hr2 : x2 + (y1 : Int) = ((r2 + y1 : Nat) : Int) := by have := HX2.out; omega
            by_cases hs1 : r2 + y1 < 4294967296
            · have HN := hid (HI2.out.next HU2.out HB2.out HC2.out hs1)
              obtain ⟨p2, hp2⟩ : ∃ t, Hid (q2 - 1 = t) := ⟨_, rfl⟩
              obtain ⟨v2, hv2⟩ : ∃ t, Hid (r2 + y1 = t) := ⟨_, rfl⟩
              have HMM : Hid (p2 < q2) := hid (by have := hp2.out; omega)
              rw [hp2.out] at hq1 hq2 HN
              obtain ⟨j2, hj2⟩ : ∃ t : Int, Hid (t = (p2 : Int)) := ⟨_, rfl⟩
              rw [← hj2.out] at hq1 hq2
              have hq3 : IntKind.u64.wrap j2 = j2 := by rw [← hq2]; exact hq1.trans hq2.symm
              rw [hv2.out] at hr1 hr2 hs1 HN
              obtain ⟨g2, hg2⟩ : ∃ t : Int, Hid (t = (v2 : Int)) := ⟨_, rfl⟩
              rw [← hg2.out] at hr1 hr2
              have hr3 : IntKind.u64.wrap g2 = g2 := by rw [← hr2]; exact hr1.trans hr2.symm
              have hs2 : ¬ 4294967296 ≤ g2 := by have := hg2.out; omega
              clear hs1 htop hrem m1
              try clear hqy hBD
              go_wp2
              go_roundw
              case rel => exact ⟨p2, v2, j2, g2, rfl, rfl, HN, trivial, hg2, hj2⟩
              case measure => have := HMM.out; have := hj2.out; have := HK2.out; simp [intOf]; omega
            · have HQ2 := hid (HI2.out.stop HU2.out HB2.out HY0.out HC2.out (by omega))
              obtain ⟨p2, hp2⟩ : ∃ t, Hid (q2 - 1 = t) := ⟨_, rfl⟩
              obtain ⟨v2, hv2⟩ : ∃ t, Hid (r2 + y1 = t) := ⟨_, rfl⟩
              rw [hp2.out] at hq1 hq2 HQ2
              obtain ⟨j2, hj2⟩ : ∃ t : Int, Hid (t = (p2 : Int)) := ⟨_, rfl⟩
              rw [← hj2.out] at hq1 hq2
              have hq3 : IntKind.u64.wrap j2 = j2 := by rw [← hq2]; exact hq1.trans hq2.symm
              rw [hv2.out] at hr1 hr2 hs1
              obtain ⟨g2, hg2⟩ : ∃ t : Int, Hid (t = (v2 : Int)) := ⟨_, rfl⟩
              rw [← hg2.out] at hr1 hr2
              have hr3 : IntKind.u64.wrap g2 = g2 := by rw [← hr2]; exact hr1.trans hr2.symm
              have hs2 : 4294967296 ≤ g2 := by have := hg2.out; omega
              clear hs1 htop hrem m1
              try clear hqy hBD
              rw [HYS.out] at HQ2
              have HE := dig_two u d1 d0 Y p1 R1 HYp.out HQ1.out HR1.out
              rw [← HQ2.out, HLL.out] at HE
              rw [HQQ.out, HRR.out] at HE
              have gQ : IntKind.u64.wrap (IntKind.u64.wrap (j1 * 4294967296) + j2) = (Q : Int) := by have := HE.1; have := HQU.out; have := hj1.out; have := hj2.out; simp only [IntKind.wrap_u64]; omega
              have gR := ck_rest R1 d0 Y p2 R2 HYp.out hYu HQ2.out HE.2.symm
              rw [← hj2.out] at gR
              clear HE
              go_wp2
              go_ret2
              exact ⟨rfl, rfl⟩
          · have hqy : q2 * y0 ≤ 4294967295 * 4294967295 := Nat.mul_le_mul (by have := HK2.out; omega) (by have := HY0.out; omega)
            have hBD := HB2.out
            obtain ⟨z2, hz2⟩ : ∃ t : Int, Hid (t = ((q2 * y0 : Nat) : Int)) := ⟨_, rfl⟩
            have hm2 : k2 * (y0 : Int) = z2 := by rw [HK2.out, hz2.out, ck_mul]
            have hm7 : IntKind.u64.wrap z2 = z2 := by rw [hz2.out]; exact ck_in _ (by omega)
            have hm1 : IntKind.u64.wrap (k2 * (y0 : Int)) = z2 := by rw [hm2, hm7]
            obtain ⟨t2, ht2⟩ : ∃ t : Int, Hid (t = ((4294967296 * r2 : Nat) : Int)) := ⟨_, rfl⟩
            have hm4 : 4294967296 * x2 = t2 := by have := HX2.out; have := ht2.out; omega
            have hm8 : IntKind.u64.wrap t2 = t2 := by rw [ht2.out]; exact ck_in _ (by omega)
            have hm3 : IntKind.u64.wrap (4294967296 * x2) = t2 := by rw [hm4, hm8]
            obtain ⟨e2, he2⟩ : ∃ t : Int, Hid (t = ((4294967296 * r2 + d0 : Nat) : Int)) := ⟨_, rfl⟩
            have hm6 : t2 + (d0 : Int) = e2 := by have := ht2.out; have := he2.out; omega
            have hm9 : IntKind.u64.wrap e2 = e2 := by rw [he2.out]; exact ck_in _ (by omega)
            have hm5 : IntKind.u64.wrap (t2 + (d0 : Int)) = e2 := by rw [hm6, hm9]
            by_cases hgt : e2 < z2
            · have HC2 : Hid (4294967296 ≤ q2 ∨ 4294967296 * r2 + d0 < q2 * y0) := hid (.inr (by have := hz2.out; have := he2.out; omega))
              have m1 := (HI2.out.more HU2.out HB2.out HC2.out).1
              have hq1 : IntKind.u64.wrap (k2 - 1) = ((q2 - 1 : Nat) : Int) := by have := HK2.out; rw [IntKind.wrap_u64]; omega
              have hq2 : k2 - 1 = ((q2 - 1 : Nat) : Int) := by have := HK2.out; omega
              have hr1 : IntKind.u64.wrap (x2 + (y1 : Int)) = ((r2 + y1 : Nat) : Int) := by have := HX2.out; rw [IntKind.wrap_u64]; omega
              have hr2 : x2 + (y1 : Int) = ((r2 + y1 : Nat) : Int) := by have := HX2.out; omega
              by_cases hs1 : r2 + y1 < 4294967296
              · have HN := hid (HI2.out.next HU2.out HB2.out HC2.out hs1)
                obtain ⟨p2, hp2⟩ : ∃ t, Hid (q2 - 1 = t) := ⟨_, rfl⟩
                obtain ⟨v2, hv2⟩ : ∃ t, Hid (r2 + y1 = t) := ⟨_, rfl⟩
                have HMM : Hid (p2 < q2) := hid (by have := hp2.out; omega)
                rw [hp2.out] at hq1 hq2 HN
                obtain ⟨j2, hj2⟩ : ∃ t : Int, Hid (t = (p2 : Int)) := ⟨_, rfl⟩
                rw [← hj2.out] at hq1 hq2
                have hq3 : IntKind.u64.wrap j2 = j2 := by rw [← hq2]; exact hq1.trans hq2.symm
                rw [hv2.out] at hr1 hr2 hs1 HN
                obtain ⟨g2, hg2⟩ : ∃ t : Int, Hid (t = (v2 : Int)) := ⟨_, rfl⟩
                rw [← hg2.out] at hr1 hr2
                have hr3 : IntKind.u64.wrap g2 = g2 := by rw [← hr2]; exact hr1.trans hr2.symm
                have hs2 : ¬ 4294967296 ≤ g2 := by have := hg2.out; omega
                clear hs1 htop hrem m1
                try clear hqy hBD
                go_wp2
                go_roundw
                case rel => exact ⟨p2, v2, j2, g2, rfl, rfl, HN, trivial, hg2, hj2⟩
                case measure => have := HMM.out; have := hj2.out; have := HK2.out; simp [intOf]; omega
              · have HQ2 := hid (HI2.out.stop HU2.out HB2.out HY0.out HC2.out (by omega))
                obtain ⟨p2, hp2⟩ : ∃ t, Hid (q2 - 1 = t) := ⟨_, rfl⟩
                obtain ⟨v2, hv2⟩ : ∃ t, Hid (r2 + y1 = t) := ⟨_, rfl⟩
                rw [hp2.out] at hq1 hq2 HQ2
                obtain ⟨j2, hj2⟩ : ∃ t : Int, Hid (t = (p2 : Int)) := ⟨_, rfl⟩
                rw [← hj2.out] at hq1 hq2
                have hq3 : IntKind.u64.wrap j2 = j2 := by rw [← hq2]; exact hq1.trans hq2.symm
                rw [hv2.out] at hr1 hr2 hs1
                obtain ⟨g2, hg2⟩ : ∃ t : Int, Hid (t = (v2 : Int)) := ⟨_, rfl⟩
                rw [← hg2.out] at hr1 hr2
                have hr3 : IntKind.u64.wrap g2 = g2 := by rw [← hr2]; exact hr1.trans hr2.symm
                have hs2 : 4294967296 ≤ g2 := by have := hg2.out; omega
                clear hs1 htop hrem m1
                try clear hqy hBD
                rw [HYS.out] at HQ2
                have HE := dig_two u d1 d0 Y p1 R1 HYp.out HQ1.out HR1.out
                rw [← HQ2.out, HLL.out] at HE
                rw [HQQ.out, HRR.out] at HE
                have gQ : IntKind.u64.wrap (IntKind.u64.wrap (j1 * 4294967296) + j2) = (Q : Int) := by have := HE.1; have := HQU.out; have := hj1.out; have := hj2.out; simp only [IntKind.wrap_u64]; omega
                have gR := ck_rest R1 d0 Y p2 R2 HYp.out hYu HQ2.out HE.2.symm
                rw [← hj2.out] at gR
                clear HE
                go_wp2
                go_ret2
                exact ⟨rfl, rfl⟩
            · have HQ2 := hid (HI2.out.last HY1.out (by have := hz2.out; have := he2.out; omega))
              clear hqy hBD htop hrem
              rw [HYS.out] at HQ2
              have HE := dig_two u d1 d0 Y p1 R1 HYp.out HQ1.out HR1.out
              rw [← HQ2.out, HLL.out] at HE
              rw [HQQ.out, HRR.out] at HE
              have gQ : IntKind.u64.wrap (IntKind.u64.wrap (j1 * 4294967296) + k2) = (Q : Int) := by have := HE.1; have := HQU.out; have := hj1.out; have := HK2.out; simp only [IntKind.wrap_u64]; omega
              have gR := ck_rest R1 d0 Y q2 R2 HYp.out hYu HQ2.out HE.2.symm
              rw [← HK2.out] at gR
              clear HE
              go_wp2
              go_ret2
              exact ⟨rfl, rfl⟩
    · have hqy : q1 * y0 ≤ 4294967295 * 4294967295 := Nat.mul_le_mul (by have := HK1.out; omega) (by have := HY0.out; omega)
      have hBD := HB1.out
      obtain ⟨z1, hz1⟩ : ∃ t : Int, Hid (t = ((q1 * y0 : Nat) : Int)) := ⟨_, rfl⟩
      have hm2 : k1 * (y0 : Int) = z1 := by rw [HK1.out, hz1.out, ck_mul]
      have hm7 : IntKind.u64.wrap z1 = z1 := by rw [hz1.out]; exact ck_in _ (by omega)
      have hm1 : IntKind.u64.wrap (k1 * (y0 : Int)) = z1 := by rw [hm2, hm7]
      obtain ⟨t1, ht1⟩ : ∃ t : Int, Hid (t = ((4294967296 * r1 : Nat) : Int)) := ⟨_, rfl⟩
      have hm4 : 4294967296 * x1 = t1 := by have := HX1.out; have := ht1.out; omega
      have hm8 : IntKind.u64.wrap t1 = t1 := by rw [ht1.out]; exact ck_in _ (by omega)
      have hm3 : IntKind.u64.wrap (4294967296 * x1) = t1 := by rw [hm4, hm8]
      obtain ⟨e1, he1⟩ : ∃ t : Int, Hid (t = ((4294967296 * r1 + d1 : Nat) : Int)) := ⟨_, rfl⟩
      have hm6 : t1 + (d1 : Int) = e1 := by have := ht1.out; have := he1.out; omega
      have hm9 : IntKind.u64.wrap e1 = e1 := by rw [he1.out]; exact ck_in _ (by omega)
      have hm5 : IntKind.u64.wrap (t1 + (d1 : Int)) = e1 := by rw [hm6, hm9]
      by_cases hgt : e1 < z1
      · have HC1 : Hid (4294967296 ≤ q1 ∨ 4294967296 * r1 + d1 < q1 * y0) := hid (.inr (by have := hz1.out; have := he1.out; omega))
        have m1 := (HI1.out.more HU1.out HB1.out HC1.out).1
        have hq1 : IntKind.u64.wrap (k1 - 1) = ((q1 - 1 : Nat) : Int) := by have := HK1.out; rw [IntKind.wrap_u64]; omega
        have hq2 : k1 - 1 = ((q1 - 1 : Nat) : Int) := by have := HK1.out; omega
        have hr1 : IntKind.u64.wrap (x1 + (y1 : Int)) = ((r1 + y1 : Nat) : Int) := by have := HX1.out; rw [IntKind.wrap_u64]; omega
        have hr2 : x1 + (y1 : Int) = ((r1 + y1 : Nat) : Int) := by have := HX1.out; omega
        by_cases hs1 : r1 + y1 < 4294967296
        · have HN := hid (HI1.out.next HU1.out HB1.out HC1.out hs1)
          obtain ⟨p1, hp1⟩ : ∃ t, Hid (q1 - 1 = t) := ⟨_, rfl⟩
          obtain ⟨v1, hv1⟩ : ∃ t, Hid (r1 + y1 = t) := ⟨_, rfl⟩
          have HMM : Hid (p1 < q1) := hid (by have := hp1.out; omega)
          rw [hp1.out] at hq1 hq2 HN
          obtain ⟨j1, hj1⟩ : ∃ t : Int, Hid (t = (p1 : Int)) := ⟨_, rfl⟩
          rw [← hj1.out] at hq1 hq2
          have hq3 : IntKind.u64.wrap j1 = j1 := by rw [← hq2]; exact hq1.trans hq2.symm
          rw [hv1.out] at hr1 hr2 hs1 HN
          obtain ⟨g1, hg1⟩ : ∃ t : Int, Hid (t = (v1 : Int)) := ⟨_, rfl⟩
          rw [← hg1.out] at hr1 hr2
          have hr3 : IntKind.u64.wrap g1 = g1 := by rw [← hr2]; exact hr1.trans hr2.symm
          have hs2 : ¬ 4294967296 ≤ g1 := by have := hg1.out; omega
          clear hs1 htop hrem m1
          try clear hqy hBD
          go_wp2
          go_roundw
          case rel => exact ⟨p1, v1, j1, g1, rfl, rfl, HN, trivial, hg1, hj1⟩
          case measure => have := HMM.out; have := hj1.out; have := HK1.out; simp [intOf]; omega
        · have HQ1 := hid (HI1.out.stop HU1.out HB1.out HY0.out HC1.out (by omega))
          obtain ⟨p1, hp1⟩ : ∃ t, Hid (q1 - 1 = t) := ⟨_, rfl⟩
          obtain ⟨v1, hv1⟩ : ∃ t, Hid (r1 + y1 = t) := ⟨_, rfl⟩
          rw [hp1.out] at hq1 hq2 HQ1
          obtain ⟨j1, hj1⟩ : ∃ t : Int, Hid (t = (p1 : Int)) := ⟨_, rfl⟩
          rw [← hj1.out] at hq1 hq2
          have hq3 : IntKind.u64.wrap j1 = j1 := by rw [← hq2]; exact hq1.trans hq2.symm
          rw [hv1.out] at hr1 hr2 hs1
          obtain ⟨g1, hg1⟩ : ∃ t : Int, Hid (t = (v1 : Int)) := ⟨_, rfl⟩
          rw [← hg1.out] at hr1 hr2
          have hr3 : IntKind.u64.wrap g1 = g1 := by rw [← hr2]; exact hr1.trans hr2.symm
          have hs2 : 4294967296 ≤ g1 := by have := hg1.out; omega
          clear hs1 htop hrem m1
          try clear hqy hBD
          rw [HYS.out] at HQ1
          obtain ⟨R1, hR1⟩ : ∃ t, (u * 4294967296 + d1) % Y = t := ⟨_, rfl⟩
          have HR1 := hid hR1.symm
          have hR1Y : R1 < Y := by rw [← hR1]; exact Nat.mod_lt _ HYp.out
          clear hR1
          have gr := ck_rest u d1 Y p1 R1 HYp.out hYu HQ1.out HR1.out
          rw [← hj1.out] at gr
          have HU2 : Hid (R1 < y1 * 4294967296 + y0) := hid (by rw [HYS.out]; exact hR1Y)
          have HD2 := hid (DigI.start R1 d0 y1 y0 HU2.out hy1l (by omega) HY0.out HB2.out)
          have g1 : (R1 : Int).tdiv (y1 : Int) = ((R1 / y1 : Nat) : Int) := (Int.ofNat_tdiv R1 y1).symm
          have g2 := ck_sub R1 (R1 / y1) y1 (R1 % y1) (by rw [Nat.mul_comm]; exact Nat.div_add_mod R1 y1) (by omega)
          have g3 := ck_in (R1 / y1) (by have := Nat.div_le_self R1 y1; omega)
          obtain ⟨qs2, hqs2⟩ : ∃ t, Hid (R1 / y1 = t) := ⟨_, rfl⟩
          obtain ⟨rs2, hrs2⟩ : ∃ t, Hid (R1 % y1 = t) := ⟨_, rfl⟩
          rw [hqs2.out] at g1 g2 g3 HD2
          rw [hrs2.out] at g2 HD2
          go_wp2
          go_loopw [18, 16] (fun qv rv wr => ∃ (q r : Nat) (k x : Int), qv = .int .u64 k ∧ rv = .int .u64 x ∧ Hid (DigI R1 d0 y1 y0 q r) ∧ wr = w ∧ Hid (x = (r : Int)) ∧ Hid (k = (q : Int))) (fun qv _ _ => (intOf qv).toNat)
          case atStart => exact ⟨_, _, _, _, rfl, rfl, HD2, rfl, rfl, rfl⟩
          case round =>
            obtain ⟨q2, r2, k2, x2, rfl, rfl, HI2, hw, HX2, HK2⟩ := hrel
            rw [hw]
            clear hw
            have htop := HI2.out.top
            have hrem := HI2.out.rem
            by_cases hbig : 4294967296 ≤ k2
            · have HC2 : Hid (4294967296 ≤ q2 ∨ 4294967296 * r2 + d0 < q2 * y0) := hid (.inl (by have := HK2.out; omega))
              have m1 := (HI2.out.more HU2.out HB2.out HC2.out).1
              have hq1 : IntKind.u64.wrap (k2 - 1) = ((q2 - 1 : Nat) : Int) := by have := HK2.out; rw [IntKind.wrap_u64]; omega
              have hq2 : k2 - 1 = ((q2 - 1 : Nat) : Int) := by have := HK2.out; omega
              have hr1 : IntKind.u64.wrap (x2 + (y1 : Int)) = ((r2 + y1 : Nat) : Int) := by have := HX2.out; rw [IntKind.wrap_u64]; omega
              have hr2 : x2 + (y1 : Int) = ((r2 + y1 : Nat) : Int) := by have := HX2.out; omega
              by_cases hs1 : r2 + y1 < 4294967296
              · have HN := hid (HI2.out.next HU2.out HB2.out HC2.out hs1)
                obtain ⟨p2, hp2⟩ : ∃ t, Hid (q2 - 1 = t) := ⟨_, rfl⟩
                obtain ⟨v2, hv2⟩ : ∃ t, Hid (r2 + y1 = t) := ⟨_, rfl⟩
                have HMM : Hid (p2 < q2) := hid (by have := hp2.out; omega)
                rw [hp2.out] at hq1 hq2 HN
                obtain ⟨j2, hj2⟩ : ∃ t : Int, Hid (t = (p2 : Int)) := ⟨_, rfl⟩
                rw [← hj2.out] at hq1 hq2
                have hq3 : IntKind.u64.wrap j2 = j2 := by rw [← hq2]; exact hq1.trans hq2.symm
                rw [hv2.out] at hr1 hr2 hs1 HN
                obtain ⟨g2, hg2⟩ : ∃ t : Int, Hid (t = (v2 : Int)) := ⟨_, rfl⟩
                rw [← hg2.out] at hr1 hr2
                have hr3 : IntKind.u64.wrap g2 = g2 := by rw [← hr2]; exact hr1.trans hr2.symm
                have hs2 : ¬ 4294967296 ≤ g2 := by have := hg2.out; omega
                clear hs1 htop hrem m1
                try clear hqy hBD
                go_wp2
                go_roundw
                case rel => exact ⟨p2, v2, j2, g2, rfl, rfl, HN, trivial, hg2, hj2⟩
                case measure => have := HMM.out; have := hj2.out; have := HK2.out; simp [intOf]; omega
              · have HQ2 := hid (HI2.out.stop HU2.out HB2.out HY0.out HC2.out (by omega))
                obtain ⟨p2, hp2⟩ : ∃ t, Hid (q2 - 1 = t) := ⟨_, rfl⟩
                obtain ⟨v2, hv2⟩ : ∃ t, Hid (r2 + y1 = t) := ⟨_, rfl⟩
                rw [hp2.out] at hq1 hq2 HQ2
                obtain ⟨j2, hj2⟩ : ∃ t : Int, Hid (t = (p2 : Int)) := ⟨_, rfl⟩
                rw [← hj2.out] at hq1 hq2
                have hq3 : IntKind.u64.wrap j2 = j2 := by rw [← hq2]; exact hq1.trans hq2.symm
                rw [hv2.out] at hr1 hr2 hs1
                obtain ⟨g2, hg2⟩ : ∃ t : Int, Hid (t = (v2 : Int)) := ⟨_, rfl⟩
                rw [← hg2.out] at hr1 hr2
                have hr3 : IntKind.u64.wrap g2 = g2 := by rw [← hr2]; exact hr1.trans hr2.symm
                have hs2 : 4294967296 ≤ g2 := by have := hg2.out; omega
                clear hs1 htop hrem m1
                try clear hqy hBD
                rw [HYS.out] at HQ2
                have HE := dig_two u d1 d0 Y p1 R1 HYp.out HQ1.out HR1.out
                rw [← HQ2.out, HLL.out] at HE
                rw [HQQ.out, HRR.out] at HE
                have gQ : IntKind.u64.wrap (IntKind.u64.wrap (j1 * 4294967296) + j2) = (Q : Int) := by have := HE.1; have := HQU.out; have := hj1.out; have := hj2.out; simp only [IntKind.wrap_u64]; omega
                have gR := ck_rest R1 d0 Y p2 R2 HYp.out hYu HQ2.out HE.2.symm
                rw [← hj2.out] at gR
                clear HE
                go_wp2
                go_ret2
                exact ⟨rfl, rfl⟩
            · have hqy : q2 * y0 ≤ 4294967295 * 4294967295 := Nat.mul_le_mul (by have := HK2.out; omega) (by have := HY0.out; omega)
              have hBD := HB2.out
              obtain ⟨z2, hz2⟩ : ∃ t : Int, Hid (t = ((q2 * y0 : Nat) : Int)) := ⟨_, rfl⟩
              have hm2 : k2 * (y0 : Int) = z2 := by rw [HK2.out, hz2.out, ck_mul]
              have hm7 : IntKind.u64.wrap z2 = z2 := by rw [hz2.out]; exact ck_in _ (by omega)
              have hm1 : IntKind.u64.wrap (k2 * (y0 : Int)) = z2 := by rw [hm2, hm7]
              obtain ⟨t2, ht2⟩ : ∃ t : Int, Hid (t = ((4294967296 * r2 : Nat) : Int)) := ⟨_, rfl⟩
              have hm4 : 4294967296 * x2 = t2 := by have := HX2.out; have := ht2.out; omega
              have hm8 : IntKind.u64.wrap t2 = t2 := by rw [ht2.out]; exact ck_in _ (by omega)
              have hm3 : IntKind.u64.wrap (4294967296 * x2) = t2 := by rw [hm4, hm8]
              obtain ⟨e2, he2⟩ : ∃ t : Int, Hid (t = ((4294967296 * r2 + d0 : Nat) : Int)) := ⟨_, rfl⟩
              have hm6 : t2 + (d0 : Int) = e2 := by have := ht2.out; have := he2.out; omega
              have hm9 : IntKind.u64.wrap e2 = e2 := by rw [he2.out]; exact ck_in _ (by omega)
              have hm5 : IntKind.u64.wrap (t2 + (d0 : Int)) = e2 := by rw [hm6, hm9]
              by_cases hgt : e2 < z2
              · have HC2 : Hid (4294967296 ≤ q2 ∨ 4294967296 * r2 + d0 < q2 * y0) := hid (.inr (by have := hz2.out; have := he2.out; omega))
                have m1 := (HI2.out.more HU2.out HB2.out HC2.out).1
                have hq1 : IntKind.u64.wrap (k2 - 1) = ((q2 - 1 : Nat) : Int) := by have := HK2.out; rw [IntKind.wrap_u64]; omega
                have hq2 : k2 - 1 = ((q2 - 1 : Nat) : Int) := by have := HK2.out; omega
                have hr1 : IntKind.u64.wrap (x2 + (y1 : Int)) = ((r2 + y1 : Nat) : Int) := by have := HX2.out; rw [IntKind.wrap_u64]; omega
                have hr2 : x2 + (y1 : Int) = ((r2 + y1 : Nat) : Int) := by have := HX2.out; omega
                by_cases hs1 : r2 + y1 < 4294967296
                · have HN := hid (HI2.out.next HU2.out HB2.out HC2.out hs1)
                  obtain ⟨p2, hp2⟩ : ∃ t, Hid (q2 - 1 = t) := ⟨_, rfl⟩
                  obtain ⟨v2, hv2⟩ : ∃ t, Hid (r2 + y1 = t) := ⟨_, rfl⟩
                  have HMM : Hid (p2 < q2) := hid (by have := hp2.out; omega)
                  rw [hp2.out] at hq1 hq2 HN
                  obtain ⟨j2, hj2⟩ : ∃ t : Int, Hid (t = (p2 : Int)) := ⟨_, rfl⟩
                  rw [← hj2.out] at hq1 hq2
                  have hq3 : IntKind.u64.wrap j2 = j2 := by rw [← hq2]; exact hq1.trans hq2.symm
                  rw [hv2.out] at hr1 hr2 hs1 HN
                  obtain ⟨g2, hg2⟩ : ∃ t : Int, Hid (t = (v2 : Int)) := ⟨_, rfl⟩
                  rw [← hg2.out] at hr1 hr2
                  have hr3 : IntKind.u64.wrap g2 = g2 := by rw [← hr2]; exact hr1.trans hr2.symm
                  have hs2 : ¬ 4294967296 ≤ g2 := by have := hg2.out; omega
                  clear hs1 htop hrem m1
                  try clear hqy hBD
                  go_wp2
                  go_roundw
                  case rel => exact ⟨p2, v2, j2, g2, rfl, rfl, HN, trivial, hg2, hj2⟩
                  case measure => have := HMM.out; have := hj2.out; have := HK2.out; simp [intOf]; omega
                · have HQ2 := hid (HI2.out.stop HU2.out HB2.out HY0.out HC2.out (by omega))
                  obtain ⟨p2, hp2⟩ : ∃ t, Hid (q2 - 1 = t) := ⟨_, rfl⟩
                  obtain ⟨v2, hv2⟩ : ∃ t, Hid (r2 + y1 = t) := ⟨_, rfl⟩
                  rw [hp2.out] at hq1 hq2 HQ2
                  obtain ⟨j2, hj2⟩ : ∃ t : Int, Hid (t = (p2 : Int)) := ⟨_, rfl⟩
                  rw [← hj2.out] at hq1 hq2
                  have hq3 : IntKind.u64.wrap j2 = j2 := by rw [← hq2]; exact hq1.trans hq2.symm
                  rw [hv2.out] at hr1 hr2 hs1
                  obtain ⟨g2, hg2⟩ : ∃ t : Int, Hid (t = (v2 : Int)) := ⟨_, rfl⟩
                  rw [← hg2.out] at hr1 hr2
                  have hr3 : IntKind.u64.wrap g2 = g2 := by rw [← hr2]; exact hr1.trans hr2.symm
                  have hs2 : 4294967296 ≤ g2 := by have := hg2.out; omega
                  clear hs1 htop hrem m1
                  try clear hqy hBD
                  rw [HYS.out] at HQ2
                  have HE := dig_two u d1 d0 Y p1 R1 HYp.out HQ1.out HR1.out
                  rw [← HQ2.out, HLL.out] at HE
                  rw [HQQ.out, HRR.out] at HE
                  have gQ : IntKind.u64.wrap (IntKind.u64.wrap (j1 * 4294967296) + j2) = (Q : Int) := by have := HE.1; have := HQU.out; have := hj1.out; have := hj2.out; simp only [IntKind.wrap_u64]; omega
                  have gR := ck_rest R1 d0 Y p2 R2 HYp.out hYu HQ2.out HE.2.symm
                  rw [← hj2.out] at gR
                  clear HE
                  go_wp2
                  go_ret2
                  exact ⟨rfl, rfl⟩
              · have HQ2 := hid (HI2.out.last HY1.out (by have := hz2.out; have := he2.out; omega))
                clear hqy hBD htop hrem
                rw [HYS.out] at HQ2
                have HE := dig_two u d1 d0 Y p1 R1 HYp.out HQ1.out HR1.out
                rw [← HQ2.out, HLL.out] at HE
                rw [HQQ.out, HRR.out] at HE
                have gQ : IntKind.u64.wrap (IntKind.u64.wrap (j1 * 4294967296) + k2) = (Q : Int) := by have := HE.1; have := HQU.out; have := hj1.out; have := HK2.out; simp only [IntKind.wrap_u64]; omega
                have gR := ck_rest R1 d0 Y q2 R2 HYp.out hYu HQ2.out HE.2.symm
                rw [← HK2.out] at gR
                clear HE
                go_wp2
                go_ret2
                exact ⟨rfl, rfl⟩
      · have HQ1 := hid (HI1.out.last HY1.out (by have := hz1.out; have := he1.out; omega))
        clear hqy hBD htop hrem
        rw [HYS.out] at HQ1
        obtain ⟨R1, hR1⟩ : ∃ t, (u * 4294967296 + d1) % Y = t := ⟨_, rfl⟩
        have HR1 := hid hR1.symm
        have hR1Y : R1 < Y := by rw [← hR1]; exact Nat.mod_lt _ HYp.out
        clear hR1
        have gr := ck_rest u d1 Y q1 R1 HYp.out hYu HQ1.out HR1.out
        rw [← HK1.out] at gr
        have HU2 : Hid (R1 < y1 * 4294967296 + y0) := hid (by rw [HYS.out]; exact hR1Y)
        have HD2 := hid (DigI.start R1 d0 y1 y0 HU2.out hy1l (by omega) HY0.out HB2.out)
        have g1 : (R1 : Int).tdiv (y1 : Int) = ((R1 / y1 : Nat) : Int) := (Int.ofNat_tdiv R1 y1).symm
        have g2 := ck_sub R1 (R1 / y1) y1 (R1 % y1) (by rw [Nat.mul_comm]; exact Nat.div_add_mod R1 y1) (by omega)
        have g3 := ck_in (R1 / y1) (by have := Nat.div_le_self R1 y1; omega)
        obtain ⟨qs2, hqs2⟩ : ∃ t, Hid (R1 / y1 = t) := ⟨_, rfl⟩
        obtain ⟨rs2, hrs2⟩ : ∃ t, Hid (R1 % y1 = t) := ⟨_, rfl⟩
        rw [hqs2.out] at g1 g2 g3 HD2
        rw [hrs2.out] at g2 HD2
        go_wp2
        go_loopw [18, 16] (fun qv rv wr => ∃ (q r : Nat) (k x : Int), qv = .int .u64 k ∧ rv = .int .u64 x ∧ Hid (DigI R1 d0 y1 y0 q r) ∧ wr = w ∧ Hid (x = (r : Int)) ∧ Hid (k = (q : Int))) (fun qv _ _ => (intOf qv).toNat)
        case atStart => exact ⟨_, _, _, _, rfl, rfl, HD2, rfl, rfl, rfl⟩
        case round =>
          obtain ⟨q2, r2, k2, x2, rfl, rfl, HI2, hw, HX2, HK2⟩ := hrel
          rw [hw]
          clear hw
          have htop := HI2.out.top
          have hrem := HI2.out.rem
          by_cases hbig : 4294967296 ≤ k2
          · have HC2 : Hid (4294967296 ≤ q2 ∨ 4294967296 * r2 + d0 < q2 * y0) := hid (.inl (by have := HK2.out; omega))
            have m1 := (HI2.out.more HU2.out HB2.out HC2.out).1
            have hq1 : IntKind.u64.wrap (k2 - 1) = ((q2 - 1 : Nat) : Int) := by have := HK2.out; rw [IntKind.wrap_u64]; omega
            have hq2 : k2 - 1 = ((q2 - 1 : Nat) : Int) := by have := HK2.out; omega
            have hr1 : IntKind.u64.wrap (x2 + (y1 : Int)) = ((r2 + y1 : Nat) : Int) := by have := HX2.out; rw [IntKind.wrap_u64]; omega
            have hr2 : x2 + (y1 : Int) = ((r2 + y1 : Nat) : Int) := by have := HX2.out; omega
            by_cases hs1 : r2 + y1 < 4294967296
            · have HN := hid (HI2.out.next HU2.out HB2.out HC2.out hs1)
              obtain ⟨p2, hp2⟩ : ∃ t, Hid (q2 - 1 = t) := ⟨_, rfl⟩
              obtain ⟨v2, hv2⟩ : ∃ t, Hid (r2 + y1 = t) := ⟨_, rfl⟩
              have HMM : Hid (p2 < q2) := hid (by have := hp2.out; omega)
              rw [hp2.out] at hq1 hq2 HN
              obtain ⟨j2, hj2⟩ : ∃ t : Int, Hid (t = (p2 : Int)) := ⟨_, rfl⟩
              rw [← hj2.out] at hq1 hq2
              have hq3 : IntKind.u64.wrap j2 = j2 := by rw [← hq2]; exact hq1.trans hq2.symm
              rw [hv2.out] at hr1 hr2 hs1 HN
              obtain ⟨g2, hg2⟩ : ∃ t : Int, Hid (t = (v2 : Int)) := ⟨_, rfl⟩
              rw [← hg2.out] at hr1 hr2
              have hr3 : IntKind.u64.wrap g2 = g2 := by rw [← hr2]; exact hr1.trans hr2.symm
              have hs2 : ¬ 4294967296 ≤ g2 := by have := hg2.out; omega
              clear hs1 htop hrem m1
              try clear hqy hBD
              go_wp2
              go_roundw
              case rel => exact ⟨p2, v2, j2, g2, rfl, rfl, HN, trivial, hg2, hj2⟩
              case measure => have := HMM.out; have := hj2.out; have := HK2.out; simp [intOf]; omega
            · have HQ2 := hid (HI2.out.stop HU2.out HB2.out HY0.out HC2.out (by omega))
              obtain ⟨p2, hp2⟩ : ∃ t, Hid (q2 - 1 = t) := ⟨_, rfl⟩
              obtain ⟨v2, hv2⟩ : ∃ t, Hid (r2 + y1 = t) := ⟨_, rfl⟩
              rw [hp2.out] at hq1 hq2 HQ2
              obtain ⟨j2, hj2⟩ : ∃ t : Int, Hid (t = (p2 : Int)) := ⟨_, rfl⟩
              rw [← hj2.out] at hq1 hq2
              have hq3 : IntKind.u64.wrap j2 = j2 := by rw [← hq2]; exact hq1.trans hq2.symm
              rw [hv2.out] at hr1 hr2 hs1
              obtain ⟨g2, hg2⟩ : ∃ t : Int, Hid (t = (v2 : Int)) := ⟨_, rfl⟩
              rw [← hg2.out] at hr1 hr2
              have hr3 : IntKind.u64.wrap g2 = g2 := by rw [← hr2]; exact hr1.trans hr2.symm
              have hs2 : 4294967296 ≤ g2 := by have := hg2.out; omega
              clear hs1 htop hrem m1
              try clear hqy hBD
              rw [HYS.out] at HQ2
              have HE := dig_two u d1 d0 Y q1 R1 HYp.out HQ1.out HR1.out
              rw [← HQ2.out, HLL.out] at HE
              rw [HQQ.out, HRR.out] at HE
              have gQ : IntKind.u64.wrap (IntKind.u64.wrap (k1 * 4294967296) + j2) = (Q : Int) := by have := HE.1; have := HQU.out; have := HK1.out; have := hj2.out; simp only [IntKind.wrap_u64]; omega
              have gR := ck_rest R1 d0 Y p2 R2 HYp.out hYu HQ2.out HE.2.symm
              rw [← hj2.out] at gR
              clear HE
              go_wp2
              go_ret2
              exact ⟨rfl, rfl⟩
          · have hqy : q2 * y0 ≤ 4294967295 * 4294967295 := Nat.mul_le_mul (by have := HK2.out; omega) (by have := HY0.out; omega)
            have hBD := HB2.out
            obtain ⟨z2, hz2⟩ : ∃ t : Int, Hid (t = ((q2 * y0 : Nat) : Int)) := ⟨_, rfl⟩
            have hm2 : k2 * (y0 : Int) = z2 := by rw [HK2.out, hz2.out, ck_mul]
            have hm7 : IntKind.u64.wrap z2 = z2 := by rw [hz2.out]; exact ck_in _ (by omega)
            have hm1 : IntKind.u64.wrap (k2 * (y0 : Int)) = z2 := by rw [hm2, hm7]
            obtain ⟨t2, ht2⟩ : ∃ t : Int, Hid (t = ((4294967296 * r2 : Nat) : Int)) := ⟨_, rfl⟩
            have hm4 : 4294967296 * x2 = t2 := by have := HX2.out; have := ht2.out; omega
            have hm8 : IntKind.u64.wrap t2 = t2 := by rw [ht2.out]; exact ck_in _ (by omega)
            have hm3 : IntKind.u64.wrap (4294967296 * x2) = t2 := by rw [hm4, hm8]
            obtain ⟨e2, he2⟩ : ∃ t : Int, Hid (t = ((4294967296 * r2 + d0 : Nat) : Int)) := ⟨_, rfl⟩
            have hm6 : t2 + (d0 : Int) = e2 := by have := ht2.out; have := he2.out; omega
            have hm9 : IntKind.u64.wrap e2 = e2 := by rw [he2.out]; exact ck_in _ (by omega)
            have hm5 : IntKind.u64.wrap (t2 + (d0 : Int)) = e2 := by rw [hm6, hm9]
            by_cases hgt : e2 < z2
            · have HC2 : Hid (4294967296 ≤ q2 ∨ 4294967296 * r2 + d0 < q2 * y0) := hid (.inr (by have := hz2.out; have := he2.out; omega))
              have m1 := (HI2.out.more HU2.out HB2.out HC2.out).1
              have hq1 : IntKind.u64.wrap (k2 - 1) = ((q2 - 1 : Nat) : Int) := by have := HK2.out; rw [IntKind.wrap_u64]; omega
              have hq2 : k2 - 1 = ((q2 - 1 : Nat) : Int) := by have := HK2.out; omega
              have hr1 : IntKind.u64.wrap (x2 + (y1 : Int)) = ((r2 + y1 : Nat) : Int) := by have := HX2.out; rw [IntKind.wrap_u64]; omega
              have hr2 : x2 + (y1 : Int) = ((r2 + y1 : Nat) : Int) := by have := HX2.out; omega
              by_cases hs1 : r2 + y1 < 4294967296
              · have HN := hid (HI2.out.next HU2.out HB2.out HC2.out hs1)
                obtain ⟨p2, hp2⟩ : ∃ t, Hid (q2 - 1 = t) := ⟨_, rfl⟩
                obtain ⟨v2, hv2⟩ : ∃ t, Hid (r2 + y1 = t) := ⟨_, rfl⟩
                have HMM : Hid (p2 < q2) := hid (by have := hp2.out; omega)
                rw [hp2.out] at hq1 hq2 HN
                obtain ⟨j2, hj2⟩ : ∃ t : Int, Hid (t = (p2 : Int)) := ⟨_, rfl⟩
                rw [← hj2.out] at hq1 hq2
                have hq3 : IntKind.u64.wrap j2 = j2 := by rw [← hq2]; exact hq1.trans hq2.symm
                rw [hv2.out] at hr1 hr2 hs1 HN
                obtain ⟨g2, hg2⟩ : ∃ t : Int, Hid (t = (v2 : Int)) := ⟨_, rfl⟩
                rw [← hg2.out] at hr1 hr2
                have hr3 : IntKind.u64.wrap g2 = g2 := by rw [← hr2]; exact hr1.trans hr2.symm
                have hs2 : ¬ 4294967296 ≤ g2 := by have := hg2.out; omega
                clear hs1 htop hrem m1
                try clear hqy hBD
                go_wp2
                go_roundw
                case rel => exact ⟨p2, v2, j2, g2, rfl, rfl, HN, trivial, hg2, hj2⟩
                case measure => have := HMM.out; have := hj2.out; have := HK2.out; simp [intOf]; omega
              · have HQ2 := hid (HI2.out.stop HU2.out HB2.out HY0.out HC2.out (by omega))
                obtain ⟨p2, hp2⟩ : ∃ t, Hid (q2 - 1 = t) := ⟨_, rfl⟩
                obtain ⟨v2, hv2⟩ : ∃ t, Hid (r2 + y1 = t) := ⟨_, rfl⟩
                rw [hp2.out] at hq1 hq2 HQ2
                obtain ⟨j2, hj2⟩ : ∃ t : Int, Hid (t = (p2 : Int)) := ⟨_, rfl⟩
                rw [← hj2.out] at hq1 hq2
                have hq3 : IntKind.u64.wrap j2 = j2 := by rw [← hq2]; exact hq1.trans hq2.symm
                rw [hv2.out] at hr1 hr2 hs1
                obtain ⟨g2, hg2⟩ : ∃ t : Int, Hid (t = (v2 : Int)) := ⟨_, rfl⟩
                rw [← hg2.out] at hr1 hr2
                have hr3 : IntKind.u64.wrap g2 = g2 := by rw [← hr2]; exact hr1.trans hr2.symm
                have hs2 : 4294967296 ≤ g2 := by have := hg2.out; omega
                clear hs1 htop hrem m1
                try clear hqy hBD
                rw [HYS.out] at HQ2
                have HE := dig_two u d1 d0 Y q1 R1 HYp.out HQ1.out HR1.out
                rw [← HQ2.out, HLL.out] at HE
                rw [HQQ.out, HRR.out] at HE
                have gQ : IntKind.u64.wrap (IntKind.u64.wrap (k1 * 4294967296) + j2) = (Q : Int) := by have := HE.1; have := HQU.out; have := HK1.out; have := hj2.out; simp only [IntKind.wrap_u64]; omega
                have gR := ck_rest R1 d0 Y p2 R2 HYp.out hYu HQ2.out HE.2.symm
                rw [← hj2.out] at gR
                clear HE
                go_wp2
                go_ret2
                exact ⟨rfl, rfl⟩
            · have HQ2 := hid (HI2.out.last HY1.out (by have := hz2.out; have := he2.out; omega))
              clear hqy hBD htop hrem
              rw [HYS.out] at HQ2
              have HE := dig_two u d1 d0 Y q1 R1 HYp.out HQ1.out HR1.out
              rw [← HQ2.out, HLL.out] at HE
              rw [HQQ.out, HRR.out] at HE
              have gQ : IntKind.u64.wrap (IntKind.u64.wrap (k1 * 4294967296) + k2) = (Q : Int) := by have := HE.1; have := HQU.out; have := HK1.out; have := HK2.out; simp only [IntKind.wrap_u64]; omega
              have gR := ck_rest R1 d0 Y q2 R2 HYp.out hYu HQ2.out HE.2.symm
              rw [← HK2.out] at gR
              clear HE
              go_wp2
              go_ret2
              exact ⟨rfl, rfl⟩
end Go.Proofs.Ytfdphegiafccpab
