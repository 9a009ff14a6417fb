
/- Numbers made by doubling and halving, by the machine. No program is spoken of. -/
import Derived.Test.YtehnkgonhgjeiaaGreatDoorP39
import Derived.Test.YtehnkgonhgjeiaaGreatDoorP17
import Derived.Test.YtehnkgonhgjeiaaGreatDoorP29
namespace Go.Proofs.YtehnkgonhgjeiaaGreatDoor
open Go Go.RowKit Go.IntWalk

def kX : Nat := 2098
theorem kX_is : kX = 2098 := rfl
/-- Of 53 digits and not too great: a number. -/
theorem word_of (V : Nat) (hF : Fz (V : Int)) (hV : V < 2 ^ kX) : ∃ r, r < 9218868437227405312 ∧ nv r = V := by
  by_cases h0 : V = 0
  · exact ⟨0, by decide, by rw [h0, nv_zero]⟩
  · have hd : 2 ^ dN V ∣ V := by
      have := Int.ofNat_dvd_left.1 hF
      rw [Int.natAbs_natCast] at this
      exact this
    obtain ⟨s, hs⟩ := hd
    have hhi := dN_hi V
    have hp := Nat.two_pow_pos (dN V)
    have hs0 : s ≠ 0 := fun h => h0 (by rw [hs, h, Nat.mul_zero])
    have hs1 : s < 9007199254740992 := by
      have h2 : 2 ^ dN V * s < 2 ^ dN V * 9007199254740992 := by rw [← hs, Nat.mul_comm]; exact hhi
      exact Nat.lt_of_mul_lt_mul_left h2
    have hbl : bitLen V = bitLen s + dN V := by
      have := bitLen_mul_pow s (dN V) hs0
      rw [Nat.mul_comm, ← hs] at this
      exact this
    have hb : bitLen V ≤ kX := bitLen_le V kX hV
    have hk := kX_is
    obtain ⟨g1, g2⟩ := good_val s ((dN V : Int) - 1074) hs0 (by omega) (by omega) (by omega)
    refine ⟨_, g1, ?_⟩
    rw [g2, show ((dN V : Int) - 1074 + 1074).toNat = dN V by omega, Nat.mul_comm]
    exact hs.symm
theorem rnd_nv (r : Nat) (hr : r < 9218868437227405312) : rndM (nv r) (-1074) = r := by
  by_cases h0 : nv r = 0
  · have : r = 0 := by
      apply Classical.byContradiction
      intro h
      have := nv_lt (r := 0) (s := r) (by omega)
      rw [nv_zero] at this
      omega
    rw [h0, this]
    unfold rndM
    rw [if_pos rfl]
  · have h := nearest_nv false (nv r) 0 r h0 hr (by rw [Nat.pow_zero, Nat.mul_one])
    rw [show (((0 : Nat) : Int) - 1074) = -1074 by omega, (near_rnd false _ _).1, word_false, signN_false] at h
    exact h
theorem fin_word (s : Bool) (a : Int) (r : Nat) (hr : r < 9218868437227405312) (hv : nv r = a.natAbs) (hs : a ≠ 0 → s = decide (a < 0)) : Fin64 (signN s r) a := by
  obtain ⟨m1, m2, m3⟩ := signN_mod s r (by omega)
  refine ⟨m3, by rw [m1]; exact hr, ?_⟩
  unfold sv
  rw [m1, hv]
  by_cases h0 : a = 0
  · rw [h0]
    split <;> rfl
  · rw [hs h0] at m2
    have e := decide_eq_decide.1 m2
    rw [hs h0]
    by_cases c : a < 0
    · rw [if_pos (e.2 c)]; omega
    · rw [if_neg (fun h => c (e.1 h))]; omega
theorem Fz_twice {a : Int} (h : Fz a) : Fz (2 * a) := by
  have hhi := dN_hi a.natAbs
  refine Fz_of _ (Dz a + 1) ?_ ?_
  · rw [Nat.pow_succ, Nat.mul_comm, Int.natCast_mul]
    exact Int.mul_dvd_mul (Int.dvd_refl _) h
  · rw [Nat.pow_succ]
    unfold Dz
    omega
theorem sv_two : sv 4611686018427387904 = 2 * ((2 ^ kH : Nat) : Int) := by decide +kernel
/-- Twice a number. -/
theorem fin_dbl (x : Nat) (a : Int) (hx : Fin64 x a) (hb : 2 * a.natAbs < 2 ^ kX) : ∃ y, FloatKind.f64.format.mul x 4611686018427387904 = some y ∧ Fin64 y (2 * a) := by
  obtain ⟨x1, x2, rfl⟩ := hx
  obtain ⟨s, e, hs⟩ := mul_rnd x 4611686018427387904 x1 (by decide) x2 (by decide)
  rw [sv_two] at e hs
  have hF := Fz_twice (Fz_sv x)
  obtain ⟨T, hT⟩ : ∃ T, (2 : Nat) ^ kH = T := ⟨_, rfl⟩
  have hT0 : 0 < T := by rw [← hT]; exact Nat.two_pow_pos _
  have hr := rndM_sc (2 * sv x).natAbs kH (-1074)
  rw [hT] at e hs hr
  have ez : sv x * (2 * (T : Int)) = (2 * sv x) * (T : Int) := by rw [← Int.mul_assoc, Int.mul_comm (sv x) 2]
  rw [ez] at e hs
  obtain ⟨g1, g2⟩ := sign_sc hT0 (rfl : (2 * sv x) * (T : Int) = (2 * sv x) * (T : Int))
  have hn : ((2 * sv x) * (T : Int)).natAbs = (2 * sv x).natAbs * T := by rw [Int.natAbs_mul]; rfl
  have hab : (2 * sv x).natAbs = 2 * (sv x).natAbs := by rw [Int.natAbs_mul]; rfl
  obtain ⟨r, r1, r2⟩ := word_of (2 * sv x).natAbs (by
    rcases Int.natAbs_eq (2 * sv x) with h | h
    · rw [← h]; exact hF
    · have := Fz_neg hF
      rw [show ((2 * sv x).natAbs : Int) = -(2 * sv x) by omega]; exact this) (by rw [hab]; exact hb)
  rw [hn, show (-2148 : Int) = -1074 - ((kH : Nat) : Int) by decide, hr, ← r2, rnd_nv r r1] at e
  exact ⟨_, e, fin_word s _ r r1 r2 (fun h => by rw [hs (g1.2 h)]; exact decide_eq_decide.2 g2)⟩
/-- Half a number. -/
theorem fin_hlf (x : Nat) (a : Int) (hx : Fin64 x (2 * a)) : ∃ y, FloatKind.f64.format.div x 4611686018427387904 = some y ∧ Fin64 y a := by
  obtain ⟨x1, x2, x3⟩ := hx
  obtain ⟨q, e, q1, q2, q3⟩ := div_two x x1 x2
  rw [x3] at q3
  exact ⟨q, e, q1, q2, by omega⟩
/-- A whole number of at most 53 digits. -/
theorem fin_int (n : Int) (hn : n.natAbs ≤ 9007199254740992) : Fin64 (floatOfInt .f64 n) (n * ((2 ^ kH : Nat) : Int)) := by
  have hk := kH_is
  have hF : Fz ((n.natAbs * 2 ^ kH : Nat) : Int) := Fz_of _ kH (Int.ofNat_dvd_left.2 (by rw [Int.natAbs_natCast]; exact Nat.dvd_mul_left _ _)) (by rw [Int.natAbs_natCast]; exact Nat.mul_le_mul_right _ hn)
  have hV : n.natAbs * 2 ^ kH < 2 ^ kX := by
    have h1 : n.natAbs * 2 ^ kH ≤ 9007199254740992 * 2 ^ kH := Nat.mul_le_mul_right _ hn
    have h2 : (9007199254740992 : Nat) * 2 ^ kH = 2 ^ (53 + kH) := by rw [Nat.pow_add]
    have h3 : (2 : Nat) ^ (53 + kH) < 2 ^ kX := Nat.pow_lt_pow_right (by decide) (by rw [hk, kX_is]; decide)
    omega
  obtain ⟨r, r1, r2⟩ := word_of _ hF hV
  have hr := rndM_sc n.natAbs kH 0
  rw [show (0 : Int) - ((kH : Nat) : Int) = -1074 by rw [hk]; rfl, ← r2, rnd_nv r r1] at hr
  have e : floatOfInt .f64 n = signN (decide (n < 0)) r := by
    show FloatKind.f64.format.nearest _ n.natAbs 0 = _
    rw [(near_rnd _ _ _).1, ← hr]
  rw [e]
  refine fin_word _ _ r r1 ?_ (fun h => ?_)
  · rw [r2, abs_sc]
  · have hT0 : 0 < 2 ^ kH := Nat.two_pow_pos kH
    exact decide_eq_decide.2 (sign_sc hT0 rfl).2.symm
end Go.Proofs.YtehnkgonhgjeiaaGreatDoor

namespace Go.Proofs.YtehnkgonhgjeiaaGreatDoor
open Go.RowKit Go.IntWalk

theorem f_quo {x y z : Nat} (h : FloatKind.f64.format.div x y = some z) (w : World) : (binOp .quo 25 (.float .f64 x) (.float .f64 y)).run Tryz.prog w = .ok (.float .f64 z) w := run_float_arith w .quo _ .f64 x y z h
theorem fin_ne {x : Nat} {a : Int} (h : Fin64 x a) (ha : a ≠ 0) : (FloatKind.f64.format.order x 0 != some .eq) = true ∧ decide (x % 9223372036854775808 = 9218868437227405312) = false ∧ x < 18446744073709551616 := by
  obtain ⟨h1, h2, h3⟩ := h
  exact ⟨order_diff x 0 h1 (by decide) h2 (by decide) (by rw [h3, show sv 0 = 0 by decide +kernel]; exact ha), decide_eq_false (by omega), h1⟩
set_option maxRecDepth 4000 in
set_option maxHeartbeats 2000000 in
theorem xnumber_pos (p bd m : Nat) (v : Int) (w : World) (hx : NumAt w p v bd) (hv0 : v ≠ 0) (hv : v.natAbs ≤ 9007199254740992) (hm : m ≤ 2000) (hK : (v * ((2 ^ kH : Nat) : Int)).natAbs * 2 ^ m < 2 ^ kX) :
    Calls Tryz.prog 92 #[.pointer (some ⟨p, 0, none⟩), .int .i64 (m : Int)] w fun r w' => ∃ x, r = .returned (.float .f64 x) ∧ Fin64 x (v * ((2 ^ kH : Nat) : Int) * ((2 ^ m : Nat) : Int)) ∧ w' = w := by
  have HI := hid (NInt64 p v bd w hx (by omega) (by omega))
  have HF := hid (fin_int v hv)
  obtain ⟨x0, hx0⟩ : ∃ x, Hid (floatOfInt .f64 v = x) := ⟨_, rfl⟩
  rw [hx0.out] at HF
  have hcv := hx0.out
  have HA0 : Hid (v * ((2 ^ kH : Nat) : Int) ≠ 0) := (sign_sc (Nat.two_pow_pos kH) rfl).1.2 hv0
  obtain ⟨A, hA⟩ : ∃ A : Int, Hid (v * ((2 ^ kH : Nat) : Int) = A) := ⟨_, rfl⟩
  rw [hA.out] at HF HA0 hK ⊢
  have HK := hid hK
  have HIF := hid (fun (x : Nat) (W : World) (h : x < 18446744073709551616) => isinf_fl x W h)
  have hmI : (m : Int) ≤ 2000 := by omega
  clear hx hv0 hv hK hm
  go_enter Tryz.func92, Tryz.ntmps92
  go_wp2_with fail
  refine HI.out.mono ?_
  rintro r w1 ⟨rfl, rfl⟩
  go_wp2_with fail
  go_loop [1, 5] (fun e x => ∃ j : Nat, ∃ y : Nat, j ≤ m ∧ e = .int .i64 (j : Int) ∧ x = .float .f64 y ∧ Hid (Fin64 y (A * ((2 ^ (m - j) : Nat) : Int)))) (fun e _ => (intOf e).toNat)
  case atStart => exact ⟨m, x0, Nat.le_refl _, rfl, rfl, by show Fin64 _ _; rw [Nat.sub_self, Nat.pow_zero, show ((1 : Nat) : Int) = 1 from rfl, Int.mul_one]; exact HF.out⟩
  case round =>
    obtain ⟨j, y, hj, rfl, rfl, HY⟩ := hrel
    have HP0 : Hid (A * ((2 ^ (m - j) : Nat) : Int) ≠ 0) := (sign_sc (Nat.two_pow_pos (m - j)) rfl).1.2 HA0.out
    obtain ⟨hne, hif, hlt⟩ := fin_ne HY.out HP0.out
    by_cases h0 : j = 0
    · subst h0
      rw [Nat.sub_zero] at HY
      go_wp2_with fail
      go_loop [1, 5] (fun e x => e = .int .i64 0 ∧ x = .float .f64 y) (fun _ _ => 0)
      case atStart => exact ⟨rfl, rfl⟩
      case round =>
        obtain ⟨rfl, rfl⟩ := hrel
        go_wp2
        go_ret
        exact ⟨y, rfl, HY.out, rfl⟩
    · obtain ⟨z, hz1, hz2⟩ := fin_dbl y _ HY.out (by
        have := HK.out
        rw [abs_sc, Nat.mul_left_comm, ← Nat.pow_succ']
        refine Nat.lt_of_le_of_lt (Nat.mul_le_mul_left _ (Nat.pow_le_pow_right (by decide) ?_)) this
        omega)
      have g := f_mul hz1
      have HZ : Hid (Fin64 z (A * ((2 ^ (m - (j - 1)) : Nat) : Int))) := by
        show Fin64 z _
        rw [show m - (j - 1) = (m - j) + 1 by omega, Nat.pow_succ, Int.natCast_mul, ← Int.mul_assoc, Int.mul_comm _ ((2 : Nat) : Int)]
        exact hz2
      have hj0 : (0 : Int) < (j : Int) := by omega
      have hji : (j : Int) ≤ 2000 := by omega
      have HI2 := hid (HIF.out y w1 hlt)
      rw [hif] at HI2
      clear hz1 hz2 hif hlt
      go_wp2_with fail
      refine HI2.out.mono ?_
      rintro r w2 ⟨rfl, rfl⟩
      go_wp2
      refine ⟨⟨j - 1, z, by omega, ?_, rfl, HZ⟩, ?_⟩
      · congr 1
        rw [show ((j - 1 : Nat) : Int) = (j : Int) - 1 by omega]
      · simp [intOf]
        omega
set_option maxRecDepth 4000 in
set_option maxHeartbeats 2000000 in
theorem xnumber_neg (p bd m : Nat) (v A : Int) (w : World) (hx : NumAt w p v bd) (hv0 : v ≠ 0) (hv : v.natAbs ≤ 9007199254740992) (hm : m ≤ 2000) (hm0 : 0 < m) (hA : v * ((2 ^ kH : Nat) : Int) = A * ((2 ^ m : Nat) : Int)) :
    Calls Tryz.prog 92 #[.pointer (some ⟨p, 0, none⟩), .int .i64 (-(m : Int))] w fun r w' => ∃ x, r = .returned (.float .f64 x) ∧ Fin64 x A ∧ w' = w := by
  have HI := hid (NInt64 p v bd w hx (by omega) (by omega))
  have HF := hid (fin_int v hv)
  obtain ⟨x0, hx0⟩ : ∃ x, Hid (floatOfInt .f64 v = x) := ⟨_, rfl⟩
  rw [hx0.out] at HF
  have hcv := hx0.out
  have HA0 : Hid (A ≠ 0) := by
    have h1 : v * ((2 ^ kH : Nat) : Int) ≠ 0 := (sign_sc (Nat.two_pow_pos kH) rfl).1.2 hv0
    exact (sign_sc (Nat.two_pow_pos m) hA).1.1 h1
  rw [hA] at HF
  have hmI : (m : Int) ≤ 2000 := by omega
  have hmP : ¬ 0 < -(m : Int) := by omega
  clear hx hv0 hv hm hA
  go_enter Tryz.func92, Tryz.ntmps92
  go_wp2_with fail
  refine HI.out.mono ?_
  rintro r w1 ⟨rfl, rfl⟩
  go_wp2_with fail
  go_loop [1, 5] (fun e x => e = .int .i64 (-(m : Int)) ∧ x = .float .f64 x0) (fun _ _ => 0)
  case atStart => exact ⟨rfl, rfl⟩
  case round =>
    obtain ⟨rfl, rfl⟩ := hrel
    go_wp2_with fail
    go_loop [1, 5] (fun e x => ∃ j : Nat, ∃ y : Nat, j ≤ m ∧ e = .int .i64 (-(j : Int)) ∧ x = .float .f64 y ∧ Hid (Fin64 y (A * ((2 ^ j : Nat) : Int)))) (fun e _ => (-(intOf e)).toNat)
    case atStart => exact ⟨m, x0, Nat.le_refl _, rfl, rfl, HF⟩
    case round =>
      obtain ⟨j, y, hj, rfl, rfl, HY⟩ := hrel
      have HP0 : Hid (A * ((2 ^ j : Nat) : Int) ≠ 0) := (sign_sc (Nat.two_pow_pos j) rfl).1.2 HA0.out
      obtain ⟨hne, hif, hlt⟩ := fin_ne HY.out HP0.out
      by_cases h0 : j = 0
      · subst h0
        have HY2 : Hid (Fin64 y A) := by have := HY.out; rw [Nat.pow_zero, show ((1 : Nat) : Int) = 1 from rfl, Int.mul_one] at this; exact this
        go_wp2
        go_ret
        exact ⟨y, rfl, HY2.out, rfl⟩
      · obtain ⟨z, hz1, hz2⟩ := fin_hlf y (A * ((2 ^ (j - 1) : Nat) : Int)) (by
          have := HY.out
          rw [show j = (j - 1) + 1 by omega, Nat.pow_succ, Int.natCast_mul, ← Int.mul_assoc, Int.mul_comm _ ((2 : Nat) : Int)] at this
          exact this)
        have g := f_quo hz1
        have HZ := hid hz2
        have hj0 : -(j : Int) < 0 := by omega
        have hji : (j : Int) ≤ 2000 := by omega
        clear hz1 hz2 hif hlt
        go_wp2
        refine ⟨⟨j - 1, z, by omega, ?_, rfl, HZ⟩, ?_⟩
        · congr 1
          rw [show -((j - 1 : Nat) : Int) = -(j : Int) + 1 by omega]
        · simp [intOf]
          omega
end Go.Proofs.YtehnkgonhgjeiaaGreatDoor

namespace Go.Proofs.YtehnkgonhgjeiaaGreatDoor
open Go Go.RowKit Go.IntWalk

theorem near_pos (m n : Nat) : nearZ (m : Int) n = (stepN m n 0 false : Int) := by
  unfold nearZ stepN restN
  obtain ⟨P, hP⟩ : ∃ P, (2 : Nat) ^ n = P := ⟨_, rfl⟩
  have hP0 : 0 < P := by rw [← hP]; exact Nat.two_pow_pos n
  rw [hP]
  have hr := Nat.mod_lt m hP0
  rw [← Int.natCast_emod, ← Int.natCast_ediv]
  obtain ⟨q, hq⟩ : ∃ q, m / P = q := ⟨_, rfl⟩
  obtain ⟨r, hr'⟩ : ∃ r, m % P = r := ⟨_, rfl⟩
  rw [hq, hr']
  rw [hr'] at hr
  by_cases c0 : r = 0
  · rw [if_pos (by omega), if_pos c0, if_neg (by simp)]; omega
  · rw [if_neg (by omega), if_neg c0]
    by_cases c1 : 2 * r < P
    · rw [if_neg (by omega), if_pos c1, if_neg (by unfold growsOf; simp)]; omega
    · by_cases c2 : 2 * r = P
      · rw [if_neg c1, if_pos c2]
        by_cases c3 : q % 2 = 1
        · rw [if_pos (Or.inr ⟨by omega, by omega⟩), if_pos (by unfold growsOf; simp [c3])]; omega
        · rw [if_neg (by omega), if_neg (by unfold growsOf; simp [c3])]; omega
      · rw [if_pos (Or.inl (by omega)), if_neg c1, if_neg c2, if_pos (by unfold growsOf; simp)]; omega
theorem near_neg (m n : Nat) (h0 : 1 ≤ m) : nearZ (-(m : Int)) n = -(stepN m n 0 false : Int) := by
  have hfl := floor_neg m (2 ^ n) (Nat.two_pow_pos n) h0
  unfold nearZ stepN restN
  obtain ⟨P, hP⟩ : ∃ P, (2 : Nat) ^ n = P := ⟨_, rfl⟩
  have hP0 : 0 < P := by rw [← hP]; exact Nat.two_pow_pos n
  rw [hP] at hfl ⊢
  have hr := Nat.mod_lt m hP0
  have hdm := Nat.div_add_mod m P
  have hem := Int.emod_add_mul_ediv (-(m : Int)) (P : Int)
  have hd1 := Nat.div_add_mod (m - 1) P
  have hr1 := Nat.mod_lt (m - 1) hP0
  obtain ⟨q, hq⟩ : ∃ q, m / P = q := ⟨_, rfl⟩
  obtain ⟨r, hr'⟩ : ∃ r, m % P = r := ⟨_, rfl⟩
  rw [hq, hr'] at hdm ⊢
  rw [hr'] at hr
  -- the floor's amount
  have hL : (m - 1) / P + 1 = if r = 0 then q else q + 1 := by
    by_cases c : r = 0
    · rw [if_pos c]
      have e : m - 1 = (P - 1) + P * (q - 1) := by
        have hq0 : q ≠ 0 := by rintro rfl; omega
        obtain ⟨k, rfl⟩ : ∃ k, q = k + 1 := ⟨q - 1, by omega⟩
        rw [Nat.add_sub_cancel]
        rw [Nat.mul_add, Nat.mul_one] at hdm
        omega
      have hq0 : q ≠ 0 := by rintro rfl; omega
      rw [e, Nat.add_mul_div_left _ _ hP0, Nat.div_eq_of_lt (by omega)]
      omega
    · rw [if_neg c]
      have e : m - 1 = (r - 1) + P * q := by omega
      rw [e, Nat.add_mul_div_left _ _ hP0, Nat.div_eq_of_lt (by omega)]
      omega
  rw [hL] at hfl
  rw [hfl] at hem ⊢
  have hPq : ((P * q : Nat) : Int) = (P : Int) * (q : Int) := Int.natCast_mul _ _
  by_cases c0 : r = 0
  · rw [if_pos c0] at hem ⊢
    have hz : -(m : Int) % (P : Int) = 0 := by rw [Int.mul_neg, ← hPq] at hem; omega
    rw [if_pos hz, if_pos c0, if_neg (by simp)]; omega
  · rw [if_neg c0] at hem ⊢
    have hz : -(m : Int) % (P : Int) = (P : Int) - r := by
      rw [Int.natCast_add, Int.mul_neg, Int.mul_add, ← hPq, show ((1 : Nat) : Int) = 1 from rfl, Int.mul_one] at hem
      omega
    rw [hz, if_neg (by omega), if_neg c0]
    by_cases c1 : 2 * r < P
    · rw [if_pos (Or.inl (by omega)), if_pos c1, if_neg (by unfold growsOf; simp)]; omega
    · by_cases c2 : 2 * r = P
      · rw [if_neg c1, if_pos c2]
        by_cases c3 : q % 2 = 1
        · rw [if_neg (by omega), if_pos (by unfold growsOf; simp [c3])]
        · rw [if_pos (Or.inr ⟨by omega, by omega⟩), if_neg (by unfold growsOf; simp [c3])]; omega
      · rw [if_neg (by omega), if_neg c1, if_neg c2, if_pos (by unfold growsOf; simp)]
/-- What Near answers: the steps, with the number's sign. -/
theorem near_steps (v d : Int) : nearE v d = if v < 0 then -(stepQ v.natAbs d 0 false : Int) else (stepQ v.natAbs d 0 false : Int) := by
  unfold nearE
  by_cases h : d ≤ 0
  · rw [if_pos h]
    have e : stepQ v.natAbs d 0 false = v.natAbs * 2 ^ (-d).toNat := by
      unfold stepQ cutQ cutR
      rw [if_pos h, if_pos h, if_neg (by simp)]
      rfl
    rw [e, Int.natCast_mul, Int.natCast_pow]
    split
    · rw [← Int.neg_mul, show -((v.natAbs : Nat) : Int) = v by omega]; rfl
    · rw [show ((v.natAbs : Nat) : Int) = v by omega]; rfl
  · rw [if_neg h]
    obtain ⟨n, hn⟩ := Int.eq_ofNat_of_zero_le (show 0 ≤ d by omega)
    subst hn
    rw [Int.toNat_natCast, stepQ_nat]
    split
    · rename_i hv
      have := near_neg v.natAbs n (by omega)
      rw [show -((v.natAbs : Nat) : Int) = v by omega] at this
      exact this
    · have := near_pos v.natAbs n
      rw [show ((v.natAbs : Nat) : Int) = v by omega] at this
      exact this
theorem rd_unit (v e : Int) : rUnit 53 (-1022) v.natAbs e = rdE v e := by unfold rUnit rTop rdE; omega
/-- The machine's rounding of z steps of 2^B, by the odd part. -/
theorem rnd_odd_part {z v B : Int} {k : Nat} (hv : v ≠ 0) (hz : z = v * 2 ^ k) : rndM z.natAbs B = (if 1024 < rdE v (B + k) + (bitLen (nearE v (rdE v (B + k) - (B + k))).natAbs : Int) then 9218868437227405312 else wMag (nearE v (rdE v (B + k) - (B + k))).natAbs (rdE v (B + k))) ∧ (z < 0 ↔ v < 0) := by
  have hp : (0 : Int) < 2 ^ k := Int.pow_pos (by decide)
  have e1 : z.natAbs = v.natAbs * 2 ^ k := by rw [hz, Int.natAbs_mul, Int.natAbs_pow]; rfl
  have hs := rndM_sc v.natAbs k (B + k)
  rw [show B + (k : Int) - (k : Int) = B by omega, ← e1] at hs
  refine ⟨?_, ?_⟩
  · rw [hs]
    have hst : (nearE v (rdE v (B + k) - (B + k))).natAbs = stepQ v.natAbs (rdE v (B + k) - (B + k)) 0 false := by
      rw [near_steps]; split <;> omega
    rw [hst]
    have hov : rOver 53 (-1022) 1023 v.natAbs (B + k) 0 false ↔ 1024 < rdE v (B + k) + (bitLen (stepQ v.natAbs (rdE v (B + k) - (B + k)) 0 false) : Int) := by
      unfold rOver rSteps
      rw [rd_unit]
      constructor <;> intro h <;> omega
    unfold rndM
    rw [if_neg (by omega)]
    unfold rMag
    by_cases c : 1024 < rdE v (B + k) + (bitLen (stepQ v.natAbs (rdE v (B + k) - (B + k)) 0 false) : Int)
    · rw [if_pos c, if_pos (hov.2 c)]
      unfold bigM growsOf
      rfl
    · rw [if_neg c, if_neg (fun h => c (hov.1 h))]
      unfold rSteps
      rw [rd_unit]
  · rw [hz]
    constructor
    · intro h
      apply Classical.byContradiction
      intro c
      have := Int.mul_nonneg (show 0 ≤ v by omega) (Int.le_of_lt hp)
      omega
    · intro h
      exact Int.mul_neg_of_neg_of_pos h hp
end Go.Proofs.YtehnkgonhgjeiaaGreatDoor

namespace Go.Proofs.YtehnkgonhgjeiaaGreatDoor
open Go.RowKit Go.IntWalk

theorem copy_g (a : Nat) (neg : Bool) (r : Nat) (ha : a < 18446744073709551616) (hr : r < 9223372036854775808) : (bits .or .u64 (bits .andNot .u64 (a : Int) 9223372036854775808) (bits .and .u64 (signN neg r : Int) 9223372036854775808)).toNat = signN neg (a % 9223372036854775808) := by
  have hl : signN neg r < 18446744073709551616 := by unfold signN; split <;> omega
  rw [andNot_sign a ha, and_sign _ hl]
  have hb : a % 9223372036854775808 < 9223372036854775808 := Nat.mod_lt _ (by decide)
  obtain ⟨b, hbb⟩ : ∃ b, a % 9223372036854775808 = b := ⟨_, rfl⟩
  rw [hbb] at hb ⊢
  cases neg
  · rw [signN_false, signN_false, if_neg (by omega)]
    have := u64_or_nat b 0 (by omega) (by omega)
    rw [Nat.or_zero] at this
    have e : ((0 : Nat) : Int) = 0 := rfl
    rw [e] at this ⊢
    rw [this]; omega
  · have e : signN true r = r + 9223372036854775808 := rfl
    rw [e, if_pos (by omega)]
    have := or_sign b hb
    have e2 : ((9223372036854775808 : Nat) : Int) = 9223372036854775808 := rfl
    rw [e2, this]; omega
set_option maxHeartbeats 400000 in
theorem copysign_g (a : Nat) (neg : Bool) (r : Nat) (w : World) (ha : a < 18446744073709551616) (hr : r < 9223372036854775808) :
    Calls Tryz.prog 47 #[.float .f64 a, .float .f64 (signN neg r)] w fun e w' => e = .returned (.float .f64 (signN neg (a % 9223372036854775808))) ∧ w' = w := by
  have h1 := f64bits
  have h2 := f64fromI3
  have H := hid (copy_g a neg r ha hr)
  obtain ⟨x, hx⟩ : ∃ x, Hid (signN neg r = x) := ⟨_, rfl⟩
  obtain ⟨y, hy⟩ : ∃ y, Hid (signN neg (a % 9223372036854775808) = y) := ⟨_, rfl⟩
  rw [hx.out, hy.out] at H
  rw [hx.out, hy.out]
  clear ha hr
  go_enter Tryz.func47, Tryz.ntmps47
  go_wp2
  go_ret
  exact ⟨ret_f H.out, rfl⟩
set_option maxHeartbeats 400000 in
theorem inf_g (neg : Bool) (w : World) : Calls Tryz.prog 89 #[.int .i64 (if neg then -1 else 1)] w fun r w' => r = .returned (.float .f64 (signN neg 9218868437227405312)) ∧ w' = w := by
  have h2 := f64fromI3
  cases neg
  · go_enter Tryz.func89, Tryz.ntmps89
    go_wp2
    go_ret
    exact ⟨rfl, rfl⟩
  · go_enter Tryz.func89, Tryz.ntmps89
    go_wp2
    go_ret
    exact ⟨rfl, rfl⟩
theorem int_zero : floatOfInt .f64 0 = 0 := by decide +kernel
theorem int_one (neg : Bool) : floatOfInt .f64 (if neg then -1 else 1) = signN neg 4607182418800017408 := by cases neg <;> decide +kernel
set_option maxHeartbeats 1000000 in
theorem xnumber_zero (p bd : Nat) (w : World) (hx : NumAt w p 0 bd) :
    Calls Tryz.prog 92 #[.pointer (some ⟨p, 0, none⟩), .int .i64 0] w fun r w' => r = .returned (.float .f64 0) ∧ w' = w := by
  have HI := hid (NInt64 p 0 bd w hx (by decide) (by decide))
  have hcv := int_zero
  clear hx
  go_enter Tryz.func92, Tryz.ntmps92
  go_wp2_with fail
  refine HI.out.mono ?_
  rintro r w1 ⟨rfl, rfl⟩
  go_wp2_with fail
  go_loop [1, 5] (fun e x => e = .int .i64 0 ∧ x = .float .f64 0) (fun _ _ => 0)
  case atStart => exact ⟨rfl, rfl⟩
  case round =>
    obtain ⟨rfl, rfl⟩ := hrel
    go_wp2_with fail
    go_loop [1, 5] (fun e x => e = .int .i64 0 ∧ x = .float .f64 0) (fun _ _ => 0)
    case atStart => exact ⟨rfl, rfl⟩
    case round =>
      obtain ⟨rfl, rfl⟩ := hrel
      go_wp2
      go_ret
      exact ⟨rfl, rfl⟩
/-- The number of n steps of 2^E. -/
theorem xnum_all (q bd : Nat) (n E e : Int) (w : World) (h : OddV w q e E n bd) (hE : -1074 ≤ E) (hE2 : E ≤ 2000) (hn : n.natAbs ≤ 9007199254740992) (hb : E + (bitLen n.natAbs : Int) ≤ 1024) :
    Calls Tryz.prog 92 #[.pointer (some ⟨q, 0, none⟩), .int .i64 e] w fun r w' => ∃ x, r = .returned (.float .f64 x) ∧ Fin64 x (n * ((2 ^ (E + 1074).toNat : Nat) : Int)) ∧ w' = w := by
  rcases h with ⟨h1, h2, h3⟩ | ⟨v, k, h1, h2, h3, h4⟩
  · subst h3
    refine (xnumber_zero q bd w h2).mono ?_
    rintro r w' ⟨rfl, rfl⟩
    exact ⟨0, rfl, ⟨by decide, by decide, by rw [h1, Int.zero_mul]; decide +kernel⟩, rfl⟩
  · have hv0 : v ≠ 0 := by omega
    obtain ⟨u, hu⟩ := Int.eq_ofNat_of_zero_le (show 0 ≤ E + 1074 by omega)
    rw [hu, Int.toNat_natCast]
    have hk := kH_is
    have hp := Nat.two_pow_pos k
    have hab : n.natAbs = v.natAbs * 2 ^ k := by rw [h4, Int.natAbs_mul, Int.natAbs_pow]; rfl
    have hv : v.natAbs ≤ 9007199254740992 := by
      have : v.natAbs * 1 ≤ v.natAbs * 2 ^ k := Nat.mul_le_mul_left _ hp
      omega
    have hbl : bitLen n.natAbs = bitLen v.natAbs + k := by rw [hab]; exact bitLen_mul_pow v.natAbs k (by omega)
    have hval : n * ((2 ^ u : Nat) : Int) = v * ((2 ^ (k + u) : Nat) : Int) := by
      rw [pow_cast_add, ← Int.mul_assoc, h4, show ((2 ^ k : Nat) : Int) = 2 ^ k by rw [Int.natCast_pow]; rfl]
    by_cases c : 0 ≤ e
    · obtain ⟨m, rfl⟩ := Int.eq_ofNat_of_zero_le c
      have hm : kH + m = k + u := by omega
      refine (xnumber_pos q bd m v w h2 hv0 hv (by omega) ?_).mono ?_
      · rw [abs_sc, Nat.mul_assoc, ← Nat.pow_add, hm]
        have h5 := bitLen_hi v.natAbs
        have h6 : v.natAbs * 2 ^ (k + u) < 2 ^ bitLen v.natAbs * 2 ^ (k + u) := Nat.mul_lt_mul_of_pos_right h5 (Nat.two_pow_pos _)
        rw [← Nat.pow_add] at h6
        exact Nat.lt_of_lt_of_le h6 (Nat.pow_le_pow_right (by decide) (by rw [kX_is]; omega))
      · rintro r w' ⟨x, rfl, hx, rfl⟩
        refine ⟨x, rfl, ?_, rfl⟩
        rw [hval, ← hm, pow_cast_add, ← Int.mul_assoc]
        exact hx
    · obtain ⟨m, hm⟩ := Int.eq_ofNat_of_zero_le (show 0 ≤ -e by omega)
      have he : e = -(m : Int) := by omega
      subst he
      have hmk : k + u + m = kH := by omega
      refine xnumber_neg q bd m v _ w h2 hv0 hv (by omega) (by omega) ?_
      rw [hval, Int.mul_assoc, ← pow_cast_add, hmk]
set_option maxRecDepth 4000 in
set_option maxHeartbeats 4000000 in
theorem xRound0 (p bd : Nat) (e B z : Int) (w : World) (h : ExV w p e B z bd) (hbd : bd ≤ 200) (he1 : -10000 ≤ e) (he2 : e ≤ 10000) (hT : Tab32 w) (hs : 2 < w.heap.size) :
    Calls Tryz.prog 48 #[.agg #[.pointer (some ⟨p, 0, none⟩), .int .i64 e], .int .i64 0] w fun r w' => r = .returned (.float .f64 (rndI z B)) ∧ Below w.heap.size w w' := by
  have hal : Below w.heap.size w (w.alloc (XBox (some ⟨p, 0, none⟩) e)) := (Below.refl _ _).alloc (Nat.le_refl _) _
  have HXV := hid (h.below hal)
  have HT : Hid (∀ W, Below w.heap.size w W → Tab32 W ∧ 2 < W.heap.size) := fun W hW => ⟨hT.below hs hW, Nat.lt_of_lt_of_le hs hW.size⟩
  have HG : Hid ((w.alloc (XBox (some ⟨p, 0, none⟩) e)).heap[w.heap.size]? = some (XBox (some ⟨p, 0, none⟩) e)) := new_blk _ _ _ rfl
  have HAL := hid hal
  obtain ⟨W0, hW0⟩ : ∃ V, Hid (w.alloc (XBox (some ⟨p, 0, none⟩) e) = V) := ⟨_, rfl⟩
  rw [hW0.out] at HXV HG HAL
  obtain ⟨x0, x1, _⟩ := xcells_of (show W0.heap[w.heap.size]? = some (.cells #[.pointer (some ⟨p, 0, none⟩), .int .i64 e] 46) from HG.out)
  obtain ⟨v0, k0, n1, n2, n3⟩ := HXV.out
  have HN0 := hid n1
  have hsv : sgnZ v0 = sgnZ z := by rw [n3, xsgn]
  unfold XBox at hW0
  have hW0' := hW0.out
  have HBD := hid hbd
  have HE := hid (And.intro he1 he2)
  clear h hT hs hal n1 n2 n3 hbd he1 he2
  by_cases hz : z = 0
  · have hs0 : sgnZ z = 0 := by rw [hz]; rfl
    have HF : Hid (0 = rndI z B) := by show 0 = rndI z B; rw [hz]; unfold rndI rndM; rw [Int.natAbs_zero, if_pos rfl]; rfl
    go_enter Tryz.func48, Tryz.ntmps48
    go_wp2_with fail
    refine (NSign p v0 bd _ HN0.out).mono ?_
    rw [hsv, hs0]
    rintro r w1 ⟨rfl, rfl⟩
    go_wp2
    go_ret
    exact ⟨ret_f HF.out, HAL.out⟩
  · have HR := hid (fun (W : World) (hW : Below W0.heap.size W0 W) => xround_val p bd e B z W (HXV.out.below hW) HBD.out HE.out.1 HE.out.2 hz (HT.out _ (HAL.out.trans (hW.mono HAL.out.size))).1 (HT.out _ (HAL.out.trans (hW.mono HAL.out.size))).2)
    obtain ⟨N, hN⟩ : ∃ N, Hid (decide (z < 0) = N) := ⟨_, rfl⟩
    have hsg : sgnZ z = if N then -1 else 1 := by
      rw [← hN.out]
      unfold sgnZ
      by_cases c : z < 0
      · rw [decide_eq_true c, if_neg hz, if_pos c]; rfl
      · rw [decide_eq_false c, if_neg hz, if_neg c]; rfl
    have hs0 : ((if N = true then (-1 : Int) else 1) == 0) = false := by cases N <;> rfl
    obtain ⟨sg, hsg2⟩ : ∃ s : Int, Hid ((if N = true then (-1 : Int) else 1) = s) := ⟨_, rfl⟩
    rw [hsg2.out] at hsg hs0
    have HIN := hid (fun (W : World) => inf_g N W)
    have HCS := hid (fun (a : Nat) (W : World) (ha : a < 18446744073709551616) => copysign_g a N 4607182418800017408 W ha (by decide))
    have hone := int_one N
    rw [hsg2.out] at HIN hone
    obtain ⟨on, hon⟩ : ∃ o, Hid (signN N 4607182418800017408 = o) := ⟨_, rfl⟩
    rw [hon.out] at HCS hone
    clear hz
    go_enter Tryz.func48, Tryz.ntmps48
    go_wp2_with fail
    refine (NSign p v0 bd _ HN0.out).mono ?_
    rw [hsv, hsg]
    rintro r w1 ⟨rfl, rfl⟩
    go_wp2_with fail
    refine (HR.out _ (Below.refl _ _)).mono ?_
    rintro r w2 ⟨q, v, k, rfl, hv1, hz1, hbl, hbk, hn2, hb2⟩
    have hv0 : v ≠ 0 := by omega
    obtain ⟨hrnd, hsgn⟩ := rnd_odd_part (B := B) hv0 hz1
    have HNB : Hid ((nearE v (rdE v (B + (k : Nat)) - (B + (k : Nat)))).natAbs ≤ 9007199254740992) := by
      have h1 := rSteps_le 53 (-1022) v.natAbs (B + (k : Nat)) 0 false 53 rfl
      unfold rSteps at h1
      rw [rd_unit] at h1
      have h2 : (nearE v (rdE v (B + (k : Nat)) - (B + (k : Nat)))).natAbs = stepQ v.natAbs (rdE v (B + (k : Nat)) - (B + (k : Nat))) 0 false := by rw [near_steps]; split <;> omega
      show _ ≤ _
      rw [h2]
      exact h1
    have HEB : Hid (-1074 ≤ rdE v (B + (k : Nat)) ∧ rdE v (B + (k : Nat)) ≤ 23000) := by
      unfold rdE
      show _ ∧ _
      omega
    obtain ⟨n, hn⟩ : ∃ n, Hid (nearE v (rdE v (B + (k : Nat)) - (B + (k : Nat))) = n) := ⟨_, rfl⟩
    rw [hn.out] at hrnd HNB hn2
    obtain ⟨E, hE⟩ : ∃ E, Hid (rdE v (B + (k : Nat)) = E) := ⟨_, rfl⟩
    rw [hE.out] at hrnd HEB ⊢
    obtain ⟨b, hb⟩ : ∃ b, Hid (bitLen n.natAbs = b) := ⟨_, rfl⟩
    have HRN : Hid (rndI z B = signN N (if 1024 < E + (b : Int) then 9218868437227405312 else wMag n.natAbs E)) := by
      show rndI z B = _
      unfold rndI
      rw [hN.out, hrnd, hb.out]
    have HN2 := hid hn2
    have HB2 := hid (HAL.out.trans (hb2.mono HAL.out.size))
    have hb54 : (b : Int) ≤ 54 := by
      have := bitLen_le n.natAbs 54 (by have := HNB.out; omega)
      have := hb.out
      omega
    obtain ⟨hE1, hE2⟩ := HEB.out
    have hw1 : IntKind.i64.wrap ((b : Int) + E) = (b : Int) + E := by rw [IntWalk.i64_in _ (by omega)]
    clear hn2 hb2 hrnd hsgn hv0 hv1 hz1 hbl hbk
    go_wp2_with fail
    refine (NBitLen q n (bd + 40001) _ HN2.out (by have := HBD.out; omega)).mono ?_
    rw [hb.out]
    rintro r w3 ⟨rfl, m, rfl⟩
    have HB3 : Hid (Below w.heap.size w (w2.drewN m)) := bl_drewN _ HB2.out
    by_cases c : 1024 < (b : Int) + E
    · have HF : Hid (signN N 9218868437227405312 = rndI z B) := by show _ = _; rw [HRN.out, if_pos (by omega)]
      go_wp2_with fail
      refine (HIN.out _).mono ?_
      rintro r w4 ⟨rfl, rfl⟩
      go_wp2
      go_ret
      exact ⟨ret_f HF.out, HB3.out⟩
    · have HEV : Hid (ExV (w2.drewN m) q E E n (bd + 40001)) := ⟨n, 0, HN2.out.below (bl_drewN _ (Below.refl _ _)), by omega, by rw [Int.pow_zero, Int.mul_one]⟩
      have HTT := hid (HT.out _ HB3.out)
      have HC := hid c
      have HOD := hid (xOdd_val q (bd + 40001) E E n _ HEV.out (by have := HBD.out; omega) (by omega) (by omega) HTT.out.1 HTT.out.2)
      go_wp2_with fail
      refine HOD.out.mono ?_
      rintro r w4 ⟨q4, e4, rfl, ho4, _, hb4⟩
      have hal4 : Below w4.heap.size w4 (w4.alloc (XBox (some ⟨q4, 0, none⟩) e4)) := (Below.refl _ _).alloc (Nat.le_refl _) _
      have HB4 : Hid (Below w.heap.size w (w4.alloc (XBox (some ⟨q4, 0, none⟩) e4))) := by
        have h1 := HB3.out.trans (hb4.mono HB3.out.size)
        exact h1.trans (hal4.mono h1.size)
      have HNU : Hid (Calls Tryz.prog 92 #[.pointer (some ⟨q4, 0, none⟩), .int .i64 e4] (w4.alloc (XBox (some ⟨q4, 0, none⟩) e4)) fun r w' => ∃ x, r = .returned (.float .f64 x) ∧ Fin64 x (n * ((2 ^ (E + 1074).toNat : Nat) : Int)) ∧ w' = w4.alloc (XBox (some ⟨q4, 0, none⟩) e4)) := by
        have ho5 : OddV (w4.alloc (XBox (some ⟨q4, 0, none⟩) e4)) q4 e4 E n (bd + 40001 + 1) := by
          rcases ho4 with ⟨g1, g2, g3⟩ | ⟨v', k', g1, g2, g3, g4⟩
          · exact Or.inl ⟨g1, g2.below hal4, g3⟩
          · exact Or.inr ⟨v', k', g1, g2.below hal4, g3, g4⟩
        exact xnum_all q4 _ n E e4 _ ho5 hE1 (by have := hb.out; have := HC.out; omega) HNB.out (by rw [hb.out]; have := HC.out; omega)
      obtain ⟨V4, hV4⟩ : ∃ V, Hid (w4.alloc (XBox (some ⟨q4, 0, none⟩) e4) = V) := ⟨_, rfl⟩
      have hg4 : V4.heap[w4.heap.size]? = some (XBox (some ⟨q4, 0, none⟩) e4) := by rw [← hV4.out]; exact new_blk _ _ _ rfl
      rw [hV4.out] at HB4 HNU
      obtain ⟨y0, y1, _⟩ := xcells_of (show V4.heap[w4.heap.size]? = some (.cells #[.pointer (some ⟨q4, 0, none⟩), .int .i64 e4] 46) from hg4)
      unfold XBox at hV4
      clear ho4 hb4 hal4 hg4 c
      go_wp2_with fail
      rw [hV4.out]
      refine HNU.out.mono ?_
      rintro r w5 ⟨x, rfl, hx, rfl⟩
      have HXX := hid hx
      have HLT := hid hx.1
      clear hx
      go_wp2_with fail
      refine (HCS.out x _ HLT.out).mono ?_
      rintro r w6 ⟨rfl, rfl⟩
      have HF : Hid (signN N (x % 9223372036854775808) = rndI z B) := by
        obtain ⟨g1, g2, g3⟩ := HXX.out
        obtain ⟨j1, j2⟩ := wMag_val n.natAbs E HNB.out hE1 (by rw [hb.out]; have := HC.out; omega)
        have e1 : nv (x % 9223372036854775808) = (sv x).natAbs := by unfold sv; split <;> omega
        have e2 : x % 9223372036854775808 = wMag n.natAbs E := nv_inj (by rw [e1, g3, abs_sc, j1])
        show _ = _
        rw [HRN.out, if_neg (by have := HC.out; omega), e2]
      go_wp2
      go_ret
      exact ⟨ret_f HF.out, HB4.out⟩
end Go.Proofs.YtehnkgonhgjeiaaGreatDoor
