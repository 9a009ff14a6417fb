
/- Numbers made by doubling and halving, by the machine. No program is spoken of. -/
import Derived.Test.YtijadahpddmhjaaGreatDoorP45
import Derived.Test.YtijadahpddmhjaaGreatDoorP21
import Derived.Test.YtijadahpddmhjaaGreatDoorP29
namespace Go.Proofs.YtijadahpddmhjaaGreatDoor
open Go Go.RowKit Go.IntWalk

def kX : Nat := 2098
theorem kX_is : kX = 2098 := rfl
/-- Of 53 digits and not too great: a number. -/
theorem word_of (V : Nat) (hF : Fz (V : Int)) (hV : V < 2 ^ kX) : ∃ r, r < 9218868437227405312 ∧ nv r = V := by
  by_cases h0 : V = 0
  · exact ⟨0, by decide, by rw [h0, nv_zero]⟩
  · have hd : 2 ^ dN V ∣ V := by
      have := Int.ofNat_dvd_left.1 hF
      rw [Int.natAbs_natCast] at this
      exact this
    obtain ⟨s, hs⟩ := hd
    have hhi := dN_hi V
    have hp := Nat.two_pow_pos (dN V)
    have hs0 : s ≠ 0 := fun h => h0 (by rw [hs, h, Nat.mul_zero])
    have hs1 : s < 9007199254740992 := by
      have h2 : 2 ^ dN V * s < 2 ^ dN V * 9007199254740992 := by rw [← hs, Nat.mul_comm]; exact hhi
      exact Nat.lt_of_mul_lt_mul_left h2
    have hbl : bitLen V = bitLen s + dN V := by
      have := bitLen_mul_pow s (dN V) hs0
      rw [Nat.mul_comm, ← hs] at this
      exact this
    have hb : bitLen V ≤ kX := bitLen_le V kX hV
    have hk := kX_is
    obtain ⟨g1, g2⟩ := good_val s ((dN V : Int) - 1074) hs0 (by omega) (by omega) (by omega)
    refine ⟨_, g1, ?_⟩
    rw [g2, show ((dN V : Int) - 1074 + 1074).toNat = dN V by omega, Nat.mul_comm]
    exact hs.symm
theorem rnd_nv (r : Nat) (hr : r < 9218868437227405312) : rndM (nv r) (-1074) = r := by
  by_cases h0 : nv r = 0
  · have : r = 0 := by
      apply Classical.byContradiction
      intro h
      have := nv_lt (r := 0) (s := r) (by omega)
      rw [nv_zero] at this
      omega
    rw [h0, this]
    unfold rndM
    rw [if_pos rfl]
  · have h := nearest_nv false (nv r) 0 r h0 hr (by rw [Nat.pow_zero, Nat.mul_one])
    rw [show (((0 : Nat) : Int) - 1074) = -1074 by omega, (near_rnd false _ _).1, word_false, signN_false] at h
    exact h
theorem fin_word (s : Bool) (a : Int) (r : Nat) (hr : r < 9218868437227405312) (hv : nv r = a.natAbs) (hs : a ≠ 0 → s = decide (a < 0)) : Fin64 (signN s r) a := by
  obtain ⟨m1, m2, m3⟩ := signN_mod s r (by omega)
  refine ⟨m3, by rw [m1]; exact hr, ?_⟩
  unfold sv
  rw [m1, hv]
  by_cases h0 : a = 0
  · rw [h0]
    split <;> rfl
  · rw [hs h0] at m2
    have e := decide_eq_decide.1 m2
    rw [hs h0]
    by_cases c : a < 0
    · rw [if_pos (e.2 c)]; omega
    · rw [if_neg (fun h => c (e.1 h))]; omega
theorem Fz_twice {a : Int} (h : Fz a) : Fz (2 * a) := by
  have hhi := dN_hi a.natAbs
  refine Fz_of _ (Dz a + 1) ?_ ?_
  · rw [Nat.pow_succ, Nat.mul_comm, Int.natCast_mul]
    exact Int.mul_dvd_mul (Int.dvd_refl _) h
  · rw [Nat.pow_succ]
    unfold Dz
    omega
theorem sv_two : sv 4611686018427387904 = 2 * ((2 ^ kH : Nat) : Int) := by decide +kernel
/-- Twice a number. -/
theorem fin_dbl (x : Nat) (a : Int) (hx : Fin64 x a) (hb : 2 * a.natAbs < 2 ^ kX) : ∃ y, FloatKind.f64.format.mul x 4611686018427387904 = some y ∧ Fin64 y (2 * a) := by
  obtain ⟨x1, x2, rfl⟩ := hx
  obtain ⟨s, e, hs⟩ := mul_rnd x 4611686018427387904 x1 (by decide) x2 (by decide)
  rw [sv_two] at e hs
  have hF := Fz_twice (Fz_sv x)
  obtain ⟨T, hT⟩ : ∃ T, (2 : Nat) ^ kH = T := ⟨_, rfl⟩
  have hT0 : 0 < T := by rw [← hT]; exact Nat.two_pow_pos _
  have hr := rndM_sc (2 * sv x).natAbs kH (-1074)
  rw [hT] at e hs hr
  have ez : sv x * (2 * (T : Int)) = (2 * sv x) * (T : Int) := by rw [← Int.mul_assoc, Int.mul_comm (sv x) 2]
  rw [ez] at e hs
  obtain ⟨g1, g2⟩ := sign_sc hT0 (rfl : (2 * sv x) * (T : Int) = (2 * sv x) * (T : Int))
  have hn : ((2 * sv x) * (T : Int)).natAbs = (2 * sv x).natAbs * T := by rw [Int.natAbs_mul]; rfl
  have hab : (2 * sv x).natAbs = 2 * (sv x).natAbs := by rw [Int.natAbs_mul]; rfl
  obtain ⟨r, r1, r2⟩ := word_of (2 * sv x).natAbs (by
    rcases Int.natAbs_eq (2 * sv x) with h | h
    · rw [← h]; exact hF
    · have := Fz_neg hF
      rw [show ((2 * sv x).natAbs : Int) = -(2 * sv x) by omega]; exact this) (by rw [hab]; exact hb)
  rw [hn, show (-2148 : Int) = -1074 - ((kH : Nat) : Int) by decide, hr, ← r2, rnd_nv r r1] at e
  exact ⟨_, e, fin_word s _ r r1 r2 (fun h => by rw [hs (g1.2 h)]; exact decide_eq_decide.2 g2)⟩
/-- Half a number. -/
theorem fin_hlf (x : Nat) (a : Int) (hx : Fin64 x (2 * a)) : ∃ y, FloatKind.f64.format.div x 4611686018427387904 = some y ∧ Fin64 y a := by
  obtain ⟨x1, x2, x3⟩ := hx
  obtain ⟨q, e, q1, q2, q3⟩ := div_two x x1 x2
  rw [x3] at q3
  exact ⟨q, e, q1, q2, by omega⟩
/-- A whole number of at most 53 digits. -/
theorem fin_int (n : Int) (hn : n.natAbs ≤ 9007199254740992) : Fin64 (floatOfInt .f64 n) (n * ((2 ^ kH : Nat) : Int)) := by
  have hk := kH_is
  have hF : Fz ((n.natAbs * 2 ^ kH : Nat) : Int) := Fz_of _ kH (Int.ofNat_dvd_left.2 (by rw [Int.natAbs_natCast]; exact Nat.dvd_mul_left _ _)) (by rw [Int.natAbs_natCast]; exact Nat.mul_le_mul_right _ hn)
  have hV : n.natAbs * 2 ^ kH < 2 ^ kX := by
    have h1 : n.natAbs * 2 ^ kH ≤ 9007199254740992 * 2 ^ kH := Nat.mul_le_mul_right _ hn
    have h2 : (9007199254740992 : Nat) * 2 ^ kH = 2 ^ (53 + kH) := by rw [Nat.pow_add]
    have h3 : (2 : Nat) ^ (53 + kH) < 2 ^ kX := Nat.pow_lt_pow_right (by decide) (by rw [hk, kX_is]; decide)
    omega
  obtain ⟨r, r1, r2⟩ := word_of _ hF hV
  have hr := rndM_sc n.natAbs kH 0
  rw [show (0 : Int) - ((kH : Nat) : Int) = -1074 by rw [hk]; rfl, ← r2, rnd_nv r r1] at hr
  have e : floatOfInt .f64 n = signN (decide (n < 0)) r := by
    show FloatKind.f64.format.nearest _ n.natAbs 0 = _
    rw [(near_rnd _ _ _).1, ← hr]
  rw [e]
  refine fin_word _ _ r r1 ?_ (fun h => ?_)
  · rw [r2, abs_sc]
  · have hT0 : 0 < 2 ^ kH := Nat.two_pow_pos kH
    exact decide_eq_decide.2 (sign_sc hT0 rfl).2.symm
end Go.Proofs.YtijadahpddmhjaaGreatDoor

namespace Go.Proofs.YtijadahpddmhjaaGreatDoor
open Go.RowKit Go.IntWalk

theorem f_quo {x y z : Nat} (h : FloatKind.f64.format.div x y = some z) (w : World) : (binOp .quo 23 (.float .f64 x) (.float .f64 y)).run Tryz.prog w = .ok (.float .f64 z) w := run_float_arith w .quo _ .f64 x y z h
theorem fin_ne {x : Nat} {a : Int} (h : Fin64 x a) (ha : a ≠ 0) : (FloatKind.f64.format.order x 0 != some .eq) = true ∧ decide (x % 9223372036854775808 = 9218868437227405312) = false ∧ x < 18446744073709551616 := by
  obtain ⟨h1, h2, h3⟩ := h
  exact ⟨order_diff x 0 h1 (by decide) h2 (by decide) (by rw [h3, show sv 0 = 0 by decide +kernel]; exact ha), decide_eq_false (by omega), h1⟩
set_option maxRecDepth 4000 in
set_option maxHeartbeats 2000000 in
theorem xnumber_pos (p bd m : Nat) (v : Int) (w : World) (hx : NumAt w p v bd) (hv0 : v ≠ 0) (hv : v.natAbs ≤ 9007199254740992) (hm : m ≤ 2000) (hK : (v * ((2 ^ kH : Nat) : Int)).natAbs * 2 ^ m < 2 ^ kX) :
    Calls Tryz.prog 66 #[.pointer (some ⟨p, 0, none⟩), .int .i64 (m : Int)] w fun r w' => ∃ x, r = .returned (.float .f64 x) ∧ Fin64 x (v * ((2 ^ kH : Nat) : Int) * ((2 ^ m : Nat) : Int)) ∧ w' = w := by
  have HI := hid (NInt64 p v bd w hx (by omega) (by omega))
  have HF := hid (fin_int v hv)
  obtain ⟨x0, hx0⟩ : ∃ x, Hid (floatOfInt .f64 v = x) := ⟨_, rfl⟩
  rw [hx0.out] at HF
  have hcv := hx0.out
  have HA0 : Hid (v * ((2 ^ kH : Nat) : Int) ≠ 0) := (sign_sc (Nat.two_pow_pos kH) rfl).1.2 hv0
  obtain ⟨A, hA⟩ : ∃ A : Int, Hid (v * ((2 ^ kH : Nat) : Int) = A) := ⟨_, rfl⟩
  rw [hA.out] at HF HA0 hK ⊢
  have HK := hid hK
  have HIF := hid (fun (x : Nat) (W : World) (h : x < 18446744073709551616) => isinf_fl x W h)
  have hmI : (m : Int) ≤ 2000 := by omega
  clear hx hv0 hv hK hm
  go_enter Tryz.func66, Tryz.ntmps66
  go_wp2_with fail
  refine HI.out.mono ?_
  rintro r w1 ⟨rfl, rfl⟩
  go_wp2_with fail
  go_loop [1, 5] (fun e x => ∃ j : Nat, ∃ y : Nat, j ≤ m ∧ e = .int .i64 (j : Int) ∧ x = .float .f64 y ∧ Hid (Fin64 y (A * ((2 ^ (m - j) : Nat) : Int)))) (fun e _ => (intOf e).toNat)
  case atStart => exact ⟨m, x0, Nat.le_refl _, rfl, rfl, by show Fin64 _ _; rw [Nat.sub_self, Nat.pow_zero, show ((1 : Nat) : Int) = 1 from rfl, Int.mul_one]; exact HF.out⟩
  case round =>
    obtain ⟨j, y, hj, rfl, rfl, HY⟩ := hrel
    have HP0 : Hid (A * ((2 ^ (m - j) : Nat) : Int) ≠ 0) := (sign_sc (Nat.two_pow_pos (m - j)) rfl).1.2 HA0.out
    obtain ⟨hne, hif, hlt⟩ := fin_ne HY.out HP0.out
    by_cases h0 : j = 0
    · subst h0
      rw [Nat.sub_zero] at HY
      go_wp2_with fail
      go_loop [1, 5] (fun e x => e = .int .i64 0 ∧ x = .float .f64 y) (fun _ _ => 0)
      case atStart => exact ⟨rfl, rfl⟩
      case round =>
        obtain ⟨rfl, rfl⟩ := hrel
        go_wp2
        go_ret
        exact ⟨y, rfl, HY.out, rfl⟩
    · obtain ⟨z, hz1, hz2⟩ := fin_dbl y _ HY.out (by
        have := HK.out
        rw [abs_sc, Nat.mul_left_comm, ← Nat.pow_succ']
        refine Nat.lt_of_le_of_lt (Nat.mul_le_mul_left _ (Nat.pow_le_pow_right (by decide) ?_)) this
        omega)
      have g := f_mul hz1
      have HZ : Hid (Fin64 z (A * ((2 ^ (m - (j - 1)) : Nat) : Int))) := by
        show Fin64 z _
        rw [show m - (j - 1) = (m - j) + 1 by omega, Nat.pow_succ, Int.natCast_mul, ← Int.mul_assoc, Int.mul_comm _ ((2 : Nat) : Int)]
        exact hz2
      have hj0 : (0 : Int) < (j : Int) := by omega
      have hji : (j : Int) ≤ 2000 := by omega
      have HI2 := hid (HIF.out y w1 hlt)
      rw [hif] at HI2
      clear hz1 hz2 hif hlt
      go_wp2_with fail
      refine HI2.out.mono ?_
      rintro r w2 ⟨rfl, rfl⟩
      go_wp2
      refine ⟨⟨j - 1, z, by omega, ?_, rfl, HZ⟩, ?_⟩
      · congr 1
        rw [show ((j - 1 : Nat) : Int) = (j : Int) - 1 by omega]
      · simp [intOf]
        omega
set_option maxRecDepth 4000 in
set_option maxHeartbeats 2000000 in
theorem xnumber_neg (p bd m : Nat) (v A : Int) (w : World) (hx : NumAt w p v bd) (hv0 : v ≠ 0) (hv : v.natAbs ≤ 9007199254740992) (hm : m ≤ 2000) (hm0 : 0 < m) (hA : v * ((2 ^ kH : Nat) : Int) = A * ((2 ^ m : Nat) : Int)) :
    Calls Tryz.prog 66 #[.pointer (some ⟨p, 0, none⟩), .int .i64 (-(m : Int))] w fun r w' => ∃ x, r = .returned (.float .f64 x) ∧ Fin64 x A ∧ w' = w := by
  have HI := hid (NInt64 p v bd w hx (by omega) (by omega))
  have HF := hid (fin_int v hv)
  obtain ⟨x0, hx0⟩ : ∃ x, Hid (floatOfInt .f64 v = x) := ⟨_, rfl⟩
  rw [hx0.out] at HF
  have hcv := hx0.out
  have HA0 : Hid (A ≠ 0) := by
    have h1 : v * ((2 ^ kH : Nat) : Int) ≠ 0 := (sign_sc (Nat.two_pow_pos kH) rfl).1.2 hv0
    exact (sign_sc (Nat.two_pow_pos m) hA).1.1 h1
  rw [hA] at HF
  have hmI : (m : Int) ≤ 2000 := by omega
  have hmP : ¬ 0 < -(m : Int) := by omega
  clear hx hv0 hv hm hA
  go_enter Tryz.func66, Tryz.ntmps66
  go_wp2_with fail
  refine HI.out.mono ?_
  rintro r w1 ⟨rfl, rfl⟩
  go_wp2_with fail
  go_loop [1, 5] (fun e x => e = .int .i64 (-(m : Int)) ∧ x = .float .f64 x0) (fun _ _ => 0)
  case atStart => exact ⟨rfl, rfl⟩
  case round =>
    obtain ⟨rfl, rfl⟩ := hrel
    go_wp2_with fail
    go_loop [1, 5] (fun e x => ∃ j : Nat, ∃ y : Nat, j ≤ m ∧ e = .int .i64 (-(j : Int)) ∧ x = .float .f64 y ∧ Hid (Fin64 y (A * ((2 ^ j : Nat) : Int)))) (fun e _ => (-(intOf e)).toNat)
    case atStart => exact ⟨m, x0, Nat.le_refl _, rfl, rfl, HF⟩
    case round =>
      obtain ⟨j, y, hj, rfl, rfl, HY⟩ := hrel
      have HP0 : Hid (A * ((2 ^ j : Nat) : Int) ≠ 0) := (sign_sc (Nat.two_pow_pos j) rfl).1.2 HA0.out
      obtain ⟨hne, hif, hlt⟩ := fin_ne HY.out HP0.out
      by_cases h0 : j = 0
      · subst h0
        have HY2 : Hid (Fin64 y A) := by have := HY.out; rw [Nat.pow_zero, show ((1 : Nat) : Int) = 1 from rfl, Int.mul_one] at this; exact this
        go_wp2
        go_ret
        exact ⟨y, rfl, HY2.out, rfl⟩
      · obtain ⟨z, hz1, hz2⟩ := fin_hlf y (A * ((2 ^ (j - 1) : Nat) : Int)) (by
          have := HY.out
          rw [show j = (j - 1) + 1 by omega, Nat.pow_succ, Int.natCast_mul, ← Int.mul_assoc, Int.mul_comm _ ((2 : Nat) : Int)] at this
          exact this)
        have g := f_quo hz1
        have HZ := hid hz2
        have hj0 : -(j : Int) < 0 := by omega
        have hji : (j : Int) ≤ 2000 := by omega
        clear hz1 hz2 hif hlt
        go_wp2
        refine ⟨⟨j - 1, z, by omega, ?_, rfl, HZ⟩, ?_⟩
        · congr 1
          rw [show -((j - 1 : Nat) : Int) = -(j : Int) + 1 by omega]
        · simp [intOf]
          omega
end Go.Proofs.YtijadahpddmhjaaGreatDoor

namespace Go.Proofs.YtijadahpddmhjaaGreatDoor
open Go Go.RowKit Go.IntWalk

theorem near_pos (m n : Nat) : nearZ (m : Int) n = (stepN m n 0 false : Int) := by
  unfold nearZ stepN restN
  obtain ⟨P, hP⟩ : ∃ P, (2 : Nat) ^ n = P := ⟨_, rfl⟩
  have hP0 : 0 < P := by rw [← hP]; exact Nat.two_pow_pos n
  rw [hP]
  have hr := Nat.mod_lt m hP0
  rw [← Int.natCast_emod, ← Int.natCast_ediv]
  obtain ⟨q, hq⟩ : ∃ q, m / P = q := ⟨_, rfl⟩
  obtain ⟨r, hr'⟩ : ∃ r, m % P = r := ⟨_, rfl⟩
  rw [hq, hr']
  rw [hr'] at hr
  by_cases c0 : r = 0
  · rw [if_pos (by omega), if_pos c0, if_neg (by simp)]; omega
  · rw [if_neg (by omega), if_neg c0]
    by_cases c1 : 2 * r < P
    · rw [if_neg (by omega), if_pos c1, if_neg (by unfold growsOf; simp)]; omega
    · by_cases c2 : 2 * r = P
      · rw [if_neg c1, if_pos c2]
        by_cases c3 : q % 2 = 1
        · rw [if_pos (Or.inr ⟨by omega, by omega⟩), if_pos (by unfold growsOf; simp [c3])]; omega
        · rw [if_neg (by omega), if_neg (by unfold growsOf; simp [c3])]; omega
      · rw [if_pos (Or.inl (by omega)), if_neg c1, if_neg c2, if_pos (by unfold growsOf; simp)]; omega
theorem near_neg (m n : Nat) (h0 : 1 ≤ m) : nearZ (-(m : Int)) n = -(stepN m n 0 false : Int) := by
  have hfl := floor_neg m (2 ^ n) (Nat.two_pow_pos n) h0
  unfold nearZ stepN restN
  obtain ⟨P, hP⟩ : ∃ P, (2 : Nat) ^ n = P := ⟨_, rfl⟩
  have hP0 : 0 < P := by rw [← hP]; exact Nat.two_pow_pos n
  rw [hP] at hfl ⊢
  have hr := Nat.mod_lt m hP0
  have hdm := Nat.div_add_mod m P
  have hem := Int.emod_add_mul_ediv (-(m : Int)) (P : Int)
  have hd1 := Nat.div_add_mod (m - 1) P
  have hr1 := Nat.mod_lt (m - 1) hP0
  obtain ⟨q, hq⟩ : ∃ q, m / P = q := ⟨_, rfl⟩
  obtain ⟨r, hr'⟩ : ∃ r, m % P = r := ⟨_, rfl⟩
  rw [hq, hr'] at hdm ⊢
  rw [hr'] at hr
  -- the floor's amount
  have hL : (m - 1) / P + 1 = if r = 0 then q else q + 1 := by
    by_cases c : r = 0
    · rw [if_pos c]
      have e : m - 1 = (P - 1) + P * (q - 1) := by
        have hq0 : q ≠ 0 := by rintro rfl; omega
        obtain ⟨k, rfl⟩ : ∃ k, q = k + 1 := ⟨q - 1, by omega⟩
        rw [Nat.add_sub_cancel]
        rw [Nat.mul_add, Nat.mul_one] at hdm
        omega
      have hq0 : q ≠ 0 := by rintro rfl; omega
      rw [e, Nat.add_mul_div_left _ _ hP0, Nat.div_eq_of_lt (by omega)]
      omega
    · rw [if_neg c]
      have e : m - 1 = (r - 1) + P * q := by omega
      rw [e, Nat.add_mul_div_left _ _ hP0, Nat.div_eq_of_lt (by omega)]
      omega
  rw [hL] at hfl
  rw [hfl] at hem ⊢
  have hPq : ((P * q : Nat) : Int) = (P : Int) * (q : Int) := Int.natCast_mul _ _
  by_cases c0 : r = 0
  · rw [if_pos c0] at hem ⊢
    have hz : -(m : Int) % (P : Int) = 0 := by rw [Int.mul_neg, ← hPq] at hem; omega
    rw [if_pos hz, if_pos c0, if_neg (by simp)]; omega
  · rw [if_neg c0] at hem ⊢
    have hz : -(m : Int) % (P : Int) = (P : Int) - r := by
      rw [Int.natCast_add, Int.mul_neg, Int.mul_add, ← hPq, show ((1 : Nat) : Int) = 1 from rfl, Int.mul_one] at hem
      omega
    rw [hz, if_neg (by omega), if_neg c0]
    by_cases c1 : 2 * r < P
    · rw [if_pos (Or.inl (by omega)), if_pos c1, if_neg (by unfold growsOf; simp)]; omega
    · by_cases c2 : 2 * r = P
      · rw [if_neg c1, if_pos c2]
        by_cases c3 : q % 2 = 1
        · rw [if_neg (by omega), if_pos (by unfold growsOf; simp [c3])]
        · rw [if_pos (Or.inr ⟨by omega, by omega⟩), if_neg (by unfold growsOf; simp [c3])]; omega
      · rw [if_neg (by omega), if_neg c1, if_neg c2, if_pos (by unfold growsOf; simp)]
/-- What Near answers: the steps, with the number's sign. -/
theorem near_steps (v d : Int) : nearE v d = if v < 0 then -(stepQ v.natAbs d 0 false : Int) else (stepQ v.natAbs d 0 false : Int) := by
  unfold nearE
  by_cases h : d ≤ 0
  · rw [if_pos h]
    have e : stepQ v.natAbs d 0 false = v.natAbs * 2 ^ (-d).toNat := by
      unfold stepQ cutQ cutR
      rw [if_pos h, if_pos h, if_neg (by simp)]
      rfl
    rw [e, Int.natCast_mul, Int.natCast_pow]
    split
    · rw [← Int.neg_mul, show -((v.natAbs : Nat) : Int) = v by omega]; rfl
    · rw [show ((v.natAbs : Nat) : Int) = v by omega]; rfl
  · rw [if_neg h]
    obtain ⟨n, hn⟩ := Int.eq_ofNat_of_zero_le (show 0 ≤ d by omega)
    subst hn
    rw [Int.toNat_natCast, stepQ_nat]
    split
    · rename_i hv
      have := near_neg v.natAbs n (by omega)
      rw [show -((v.natAbs : Nat) : Int) = v by omega] at this
      exact this
    · have := near_pos v.natAbs n
      rw [show ((v.natAbs : Nat) : Int) = v by omega] at this
      exact this
theorem rd_unit (v e : Int) : rUnit 53 (-1022) v.natAbs e = rdE v e := by unfold rUnit rTop rdE; omega
/-- The machine's rounding of z steps of 2^B, by the odd part. -/
theorem rnd_odd_part {z v B : Int} {k : Nat} (hv : v ≠ 0) (hz : z = v * 2 ^ k) : rndM z.natAbs B = (if 1024 < rdE v (B + k) + (bitLen (nearE v (rdE v (B + k) - (B + k))).natAbs : Int) then 9218868437227405312 else wMag (nearE v (rdE v (B + k) - (B + k))).natAbs (rdE v (B + k))) ∧ (z < 0 ↔ v < 0) := by
  have hp : (0 : Int) < 2 ^ k := Int.pow_pos (by decide)
  have e1 : z.natAbs = v.natAbs * 2 ^ k := by rw [hz, Int.natAbs_mul, Int.natAbs_pow]; rfl
  have hs := rndM_sc v.natAbs k (B + k)
  rw [show B + (k : Int) - (k : Int) = B by omega, ← e1] at hs
  refine ⟨?_, ?_⟩
  · rw [hs]
    have hst : (nearE v (rdE v (B + k) - (B + k))).natAbs = stepQ v.natAbs (rdE v (B + k) - (B + k)) 0 false := by
      rw [near_steps]; split <;> omega
    rw [hst]
    have hov : rOver 53 (-1022) 1023 v.natAbs (B + k) 0 false ↔ 1024 < rdE v (B + k) + (bitLen (stepQ v.natAbs (rdE v (B + k) - (B + k)) 0 false) : Int) := by
      unfold rOver rSteps
      rw [rd_unit]
      constructor <;> intro h <;> omega
    unfold rndM
    rw [if_neg (by omega)]
    unfold rMag
    by_cases c : 1024 < rdE v (B + k) + (bitLen (stepQ v.natAbs (rdE v (B + k) - (B + k)) 0 false) : Int)
    · rw [if_pos c, if_pos (hov.2 c)]
      unfold bigM growsOf
      rfl
    · rw [if_neg c, if_neg (fun h => c (hov.1 h))]
      unfold rSteps
      rw [rd_unit]
  · rw [hz]
    constructor
    · intro h
      apply Classical.byContradiction
      intro c
      have := Int.mul_nonneg (show 0 ≤ v by omega) (Int.le_of_lt hp)
      omega
    · intro h
      exact Int.mul_neg_of_neg_of_pos h hp
end Go.Proofs.YtijadahpddmhjaaGreatDoor
