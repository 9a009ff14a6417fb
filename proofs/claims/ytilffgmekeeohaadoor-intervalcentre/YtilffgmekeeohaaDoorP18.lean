
/- interval's settled, and its sum of two finite ends: rounded once, up or down. -/
import Derived.Test.YtilffgmekeeohaaDoorP16
import Derived.Test.YtilffgmekeeohaaDoorP17
namespace Go.Proofs.YtilffgmekeeohaaDoor
open Go.RowKit Go.IntWalk

/-- settled's answer. -/
def setl (near back given : Nat) (to : Bool) : Nat := if to then (if (FloatKind.f64.format.order back given == some .lt) = true then nextOf near else near) else (if (FloatKind.f64.format.order back given == some .gt) = true then prevOf near else near)
set_option maxHeartbeats 1000000 in
theorem settled_any (near back given : Nat) (to : Bool) (w : World) (hn : near < 18446744073709551616) : Calls Tryd.prog 49 #[.float .f64 near, .float .f64 back, .float .f64 given, .bool to] w fun r w' => r = .returned (.float .f64 (setl near back given to)) ∧ Below w.heap.size w w' := by
  have HN := hid (fun (W : World) => Next_any near W hn)
  have HP := hid (fun (W : World) => Prev_any near W hn)
  clear hn
  cases to
  · rcases c : (FloatKind.f64.format.order back given == some .gt) with _ | _
    · have e : setl near back given false = near := by unfold setl; rw [c]; rfl
      rw [e]
      go_enter Tryd.func49, Tryd.ntmps49
      go_wp2
      go_ret
      exact ⟨rfl, Below.refl _ _⟩
    · have e : setl near back given false = prevOf near := by unfold setl; rw [c]; rfl
      rw [e]
      go_enter Tryd.func49, Tryd.ntmps49
      go_wp2_with fail
      refine (HP.out _).mono ?_
      rintro r w1 ⟨rfl, hb1⟩
      have HB := hid hb1
      clear hb1
      go_wp2
      go_ret
      exact ⟨rfl, HB.out⟩
  · rcases c : (FloatKind.f64.format.order back given == some .lt) with _ | _
    · have e : setl near back given true = near := by unfold setl; rw [c]; rfl
      rw [e]
      go_enter Tryd.func49, Tryd.ntmps49
      go_wp2
      go_ret
      exact ⟨rfl, Below.refl _ _⟩
    · have e : setl near back given true = nextOf near := by unfold setl; rw [c]; rfl
      rw [e]
      go_enter Tryd.func49, Tryd.ntmps49
      go_wp2_with fail
      refine (HN.out _).mono ?_
      rintro r w1 ⟨rfl, hb1⟩
      have HB := hid hb1
      clear hb1
      go_wp2
      go_ret
      exact ⟨rfl, HB.out⟩
/-- Rounded up or down. -/
def ToR (to : Bool) (u : Nat) (V : Int) : Prop := if to then UpR u V else DnR u V
set_option maxHeartbeats 1000000 in
theorem isum_ge (x y s r : Nat) (to : Bool) (w : World) (hx : x < 18446744073709551616) (hy : y < 18446744073709551616) (hs : s < 18446744073709551616) (h : ¬ x % 9223372036854775808 < y % 9223372036854775808) (nx : x % 9223372036854775808 ≤ 9218868437227405312) (ny : y % 9223372036854775808 ≤ 9218868437227405312) (e1 : FloatKind.f64.format.add x y = some s) (e2 : FloatKind.f64.format.sub s x = some r) : Calls Tryd.prog 28 #[.float .f64 x, .float .f64 y, .bool to] w fun z w' => z = .returned (.float .f64 (setl s r y to)) ∧ Below w.heap.size w w' := by
  have HA := hid (fun (W : World) => abs6_fl x W hx)
  have HB := hid (fun (W : World) => abs6_fl y W hy)
  have ho : (FloatKind.f64.format.order (x % 9223372036854775808) (y % 9223372036854775808) == some .lt) = false := by
    rw [order6_mag _ _ nx ny, if_neg h]
    split <;> rfl
  have HS := hid (fun (W : World) => settled_any s r y to W hs)
  obtain ⟨u, hu⟩ : ∃ u, Hid (setl s r y to = u) := ⟨_, rfl⟩
  rw [hu.out] at HS ⊢
  have g1 := f6_add e1
  have g2 := f6_sub e2
  obtain ⟨A, hA⟩ : ∃ A, Hid (x % 9223372036854775808 = A) := ⟨_, rfl⟩
  obtain ⟨B, hB⟩ : ∃ A, Hid (y % 9223372036854775808 = A) := ⟨_, rfl⟩
  rw [hA.out] at HA ho
  rw [hB.out] at HB ho
  clear hx hy hs h nx ny e1 e2
  go_enter Tryd.func28, Tryd.ntmps28
  go_wp2_with fail
  refine (HA.out _).mono ?_
  rintro z w1 ⟨rfl, rfl⟩
  go_wp2_with fail
  refine (HB.out _).mono ?_
  rintro z w1 ⟨rfl, rfl⟩
  go_wp2_with fail
  refine (HS.out _).mono ?_
  rintro z w2 ⟨rfl, hb⟩
  have HBB := hid hb
  clear hb
  go_wp2
  go_ret
  exact ⟨rfl, HBB.out⟩
set_option maxHeartbeats 1000000 in
theorem isum_lt (x y s r : Nat) (to : Bool) (w : World) (hx : x < 18446744073709551616) (hy : y < 18446744073709551616) (hs : s < 18446744073709551616) (h : x % 9223372036854775808 < y % 9223372036854775808) (ny : y % 9223372036854775808 ≤ 9218868437227405312) (e1 : FloatKind.f64.format.add y x = some s) (e2 : FloatKind.f64.format.sub s y = some r) : Calls Tryd.prog 28 #[.float .f64 x, .float .f64 y, .bool to] w fun z w' => z = .returned (.float .f64 (setl s r x to)) ∧ Below w.heap.size w w' := by
  have HA := hid (fun (W : World) => abs6_fl x W hx)
  have HB := hid (fun (W : World) => abs6_fl y W hy)
  have ho : FloatKind.f64.format.order (x % 9223372036854775808) (y % 9223372036854775808) = some .lt := by
    rw [order6_mag _ _ (by omega) ny, if_pos h]
  have HS := hid (fun (W : World) => settled_any s r x to W hs)
  obtain ⟨u, hu⟩ : ∃ u, Hid (setl s r x to = u) := ⟨_, rfl⟩
  rw [hu.out] at HS ⊢
  have g1 := f6_add e1
  have g2 := f6_sub e2
  obtain ⟨A, hA⟩ : ∃ A, Hid (x % 9223372036854775808 = A) := ⟨_, rfl⟩
  obtain ⟨B, hB⟩ : ∃ A, Hid (y % 9223372036854775808 = A) := ⟨_, rfl⟩
  rw [hA.out] at HA ho
  rw [hB.out] at HB ho
  clear hx hy hs h ny e1 e2
  go_enter Tryd.func28, Tryd.ntmps28
  go_wp2_with fail
  refine (HA.out _).mono ?_
  rintro z w1 ⟨rfl, rfl⟩
  go_wp2_with fail
  refine (HB.out _).mono ?_
  rintro z w1 ⟨rfl, rfl⟩
  go_wp2_with fail
  refine (HS.out _).mono ?_
  rintro z w2 ⟨rfl, hb⟩
  have HBB := hid hb
  clear hb
  go_wp2
  go_ret
  exact ⟨rfl, HBB.out⟩
theorem setl_to {s r y : Nat} {V : Int} (to : Bool) (h1 : UpR (if (FloatKind.f64.format.order r y == some .lt) = true then nextOf s else s) V) (h2 : DnR (if (FloatKind.f64.format.order r y == some .gt) = true then prevOf s else s) V) : ToR to (setl s r y to) V := by
  cases to
  · exact h2
  · exact h1
/-- interval's sum of two finite ends: the exact one, rounded once to the side that is asked for. -/
theorem sum_fin (x y : Nat) (to : Bool) (hx : x < 18446744073709551616) (hy : y < 18446744073709551616) (hz : ¬ (x = 9223372036854775808 ∧ y = 9223372036854775808)) (fx : x % 9223372036854775808 < 9218868437227405312) (fy : y % 9223372036854775808 < 9218868437227405312) : ∃ u, ToR to u (sv x + sv y) ∧ ∀ w, Calls Tryd.prog 28 #[.float .f64 x, .float .f64 y, .bool to] w fun r w' => r = .returned (.float .f64 u) ∧ Below w.heap.size w w' := by
  have am : ∀ z, (sv z).natAbs = nv (z % 9223372036854775808) := fun z => by unfold sv; split <;> omega
  by_cases c : x % 9223372036854775808 < y % 9223372036854775808
  · obtain ⟨s, r, e1, e2, hs, h1, h2⟩ := sum_core y x hy hx (fun h => hz ⟨h.2, h.1⟩) fy fx (by rw [am, am]; exact nv_mono (by omega))
    rw [Int.add_comm] at h1 h2
    exact ⟨_, setl_to to h1 h2, fun w => isum_lt x y s r to w hx hy hs c (by omega) e1 e2⟩
  · obtain ⟨s, r, e1, e2, hs, h1, h2⟩ := sum_core x y hx hy hz fx fy (by rw [am, am]; exact nv_mono (by omega))
    exact ⟨_, setl_to to h1 h2, fun w => isum_ge x y s r to w hx hy hs c (by omega) (by omega) e1 e2⟩
end Go.Proofs.YtilffgmekeeohaaDoor

namespace Go.Proofs.YtilffgmekeeohaaDoor
open Go Go.RowKit Go.IntWalk

theorem read_fin2 (x : Nat) (hx : x < 18446744073709551616) (h : x % 9223372036854775808 < 9218868437227405312) :
    ∃ m : Nat, ∃ p : Nat, FloatKind.f64.format.read x = .number (decide (9223372036854775808 ≤ x)) m ((p : Int) - 1074) ∧ m < 9007199254740992 ∧ (p = 0 ∧ m = x % 9223372036854775808 ∨ 1 ≤ p ∧ 4503599627370496 ≤ m ∧ x % 9223372036854775808 = p * 4503599627370496 + m) := by
  unfold Ieee.Format.read
  rw [fmt_sw, fmt_bin, fmt_inf, fmt_lp, sign_read x hx]
  by_cases h1 : x % 9223372036854775808 < 4503599627370496
  · exact ⟨x % 9223372036854775808, 0, by simp only [if_pos h1]; rfl, by omega, Or.inl ⟨rfl, rfl⟩⟩
  · refine ⟨4503599627370496 + x % 9223372036854775808 % 4503599627370496, x % 9223372036854775808 / 4503599627370496 - 1, ?_, by omega, ?_⟩
    · simp only [if_neg h1, if_pos h]
      congr 1
    · by_cases c : x % 9223372036854775808 / 4503599627370496 = 1
      · left; omega
      · right; omega
theorem nv_small (r : Nat) (h : r ≤ 9007199254740992) : nv r = r := by
  unfold nv
  split
  · rfl
  · by_cases c : r = 9007199254740992
    · rw [c]
    · have e1 : r / 4503599627370496 - 1 = 0 := by omega
      have e2 : r % 4503599627370496 = r - 4503599627370496 := by omega
      rw [e1, e2, Nat.pow_zero, Nat.mul_one]
      omega
theorem rnd_odd (m : Nat) (h0 : m ≠ 0) (hm : m < 9007199254740992) : rndM m (-1075) = stepN m 1 0 false := by
  have hr : rndM m (-1075) = FloatKind.f64.format.nearest false m (-1075) := (near_rnd false m (-1075)).1.symm
  rw [hr]
  have hl : m.log2 ≤ 52 := by
    have := (Nat.log2_lt h0).2 (show m < 2 ^ 53 by omega)
    omega
  unfold Ieee.Format.nearest
  rw [if_neg h0, fmt_fb, fmt_lp, fmt_bin, fmt_inf]
  have l2 : max ((-1075 : Int) + (m.log2 : Int) - ((52 : Nat) : Int)) (-1074) = -1074 := by omega
  simp only [l2]
  have t3 : ((-1075 : Int) - -1074).toNat = 0 := by omega
  have t4 : ((-1074 : Int) - -1075).toNat = 1 := by omega
  rw [t3, t4, Nat.shiftLeft_zero, cut_near, word_false]
  have e1 : stepQ m ((1 : Nat) : Int) 0 false = stepN m 1 0 false := stepQ_nat m 1
  rw [e1]
  obtain ⟨_, _, _, h4⟩ := step_near m 1
  have hs : stepN m 1 0 false ≤ 4503599627370496 := by
    rcases h4 with h4 | ⟨h4, _⟩ <;> omega
  have e2 : ((-1074 : Int) - -1074).toNat = 0 := by omega
  simp only [e2]
  omega
/-- A number divided by 2. -/
theorem div_two (x : Nat) (hx : x < 18446744073709551616) (fx : x % 9223372036854775808 < 9218868437227405312) :
    ∃ q, FloatKind.f64.format.div x 4611686018427387904 = some q ∧ q < 18446744073709551616 ∧ q % 9223372036854775808 < 9218868437227405312 ∧ (2 * sv q = sv x ∨ 2 * sv q = sv x + 1 ∨ 2 * sv q = sv x - 1) := by
  obtain ⟨m, p, ex, hm, hp⟩ := read_fin2 x hx fx
  have e2 : FloatKind.f64.format.read 4611686018427387904 = .number false 4503599627370496 (-51) := by decide +kernel
  have key : FloatKind.f64.format.div x 4611686018427387904 = some (signN (decide (9223372036854775808 ≤ x)) (rndM m ((p : Int) - 1075))) := by
    unfold Ieee.Format.div
    rw [ex, e2]
    simp only [Ieee.Datum.quotient]
    rw [if_neg (by decide : ¬ (4503599627370496 : Nat) = 0)]
    have hl2 : Nat.log2 4503599627370496 = 52 := by decide +kernel
    have hlm : m.log2 ≤ 52 := by
      by_cases c : m = 0
      · rw [c]; decide
      · have := (Nat.log2_lt c).2 (show m < 2 ^ 53 by omega)
        omega
    rw [fmt_fb, hl2]
    obtain ⟨k, hk⟩ : ∃ k, 52 + 2 + 52 - m.log2 = k + 52 := ⟨54 - m.log2, by omega⟩
    simp only [hk]
    have d1 : m <<< (k + 52) = m * 2 ^ k * 4503599627370496 := by
      rw [Nat.shiftLeft_eq, Nat.pow_add, ← Nat.mul_assoc]
    rw [d1, Nat.mul_div_cancel _ (by decide), Nat.mul_mod_left]
    show some (FloatKind.f64.format.nearest _ (2 * (m * 2 ^ k) + 0) _) = _
    rw [(near_rnd _ _ _).1]
    have e3 : 2 * (m * 2 ^ k) + 0 = m * 2 ^ (k + 1) := by rw [Nat.pow_succ, Nat.add_zero, ← Nat.mul_assoc m, Nat.mul_comm 2]
    have e4 : ((p : Int) - 1074 - -51 - ((k + 52 : Nat) : Int) - 1) = ((p : Int) - 1075) - ((k + 1 : Nat) : Int) := by omega
    rw [e3, e4, rndM_sc]
    congr 2
    cases decide (9223372036854775808 ≤ x) <;> rfl
  have fin : ∀ r, r < 9218868437227405312 → (2 * nv r = nv (x % 9223372036854775808) ∨ 2 * nv r = nv (x % 9223372036854775808) + 1 ∨ 2 * nv r + 1 = nv (x % 9223372036854775808)) → ∀ q, q = signN (decide (9223372036854775808 ≤ x)) r → q < 18446744073709551616 ∧ q % 9223372036854775808 < 9218868437227405312 ∧ (2 * sv q = sv x ∨ 2 * sv q = sv x + 1 ∨ 2 * sv q = sv x - 1) := by
    intro r hr hv q hq
    obtain ⟨a1, a2, a3⟩ := signN_mod (decide (9223372036854775808 ≤ x)) r (by omega)
    rw [← hq] at a1 a2 a3
    refine ⟨a3, by rw [a1]; exact hr, ?_⟩
    have hsg : 9223372036854775808 ≤ q ↔ 9223372036854775808 ≤ x := by
      rw [decide_eq_decide] at a2; exact a2
    unfold sv
    rw [a1]
    by_cases c : 9223372036854775808 ≤ x
    · rw [if_pos (hsg.2 c), if_pos c]; omega
    · rw [if_neg (fun h => c (hsg.1 h)), if_neg c]; omega
  refine ⟨_, key, ?_⟩
  rcases hp with ⟨rfl, hm2⟩ | ⟨hp1, hm1, hxm⟩
  · have hnx : nv (x % 9223372036854775808) = m := by rw [← hm2, nv_small m (by omega)]
    by_cases h0 : m = 0
    · refine fin 0 (by decide) (Or.inl ?_) _ (by rw [h0]; unfold rndM; rw [if_pos rfl])
      rw [hnx, h0, nv_zero]
    · obtain ⟨_, _, _, h4⟩ := step_near m 1
      rw [Nat.pow_one] at h4
      have hs : stepN m 1 0 false ≤ 4503599627370496 := by
        rcases h4 with h4 | ⟨h4, _⟩ <;> omega
      refine fin (stepN m 1 0 false) (by omega) ?_ _ (by rw [← rnd_odd m h0 hm]; rfl)
      rw [hnx, nv_small _ (by omega)]
      rcases h4 with h4 | ⟨h4, h5⟩ <;> omega
  · obtain ⟨P, rfl⟩ : ∃ P, p = P + 1 := ⟨p - 1, by omega⟩
    have hr1 : P * 4503599627370496 + m < 9218868437227405312 := by omega
    have hw := nv_word P m (by omega) (fun _ => hm1)
    have hwx := nv_word (P + 1) m (by omega) (fun _ => hm1)
    have hn := nearest_nv false m P (P * 4503599627370496 + m) (by omega) hr1 (by rw [hw])
    have hr : rndM m (((P + 1 : Nat) : Int) - 1075) = P * 4503599627370496 + m := by
      have := (near_rnd false m ((P : Int) - 1074)).1
      rw [hn, word_false] at this
      have e : ((P + 1 : Nat) : Int) - 1075 = (P : Int) - 1074 := by omega
      rw [e, this]
      rfl
    refine fin (P * 4503599627370496 + m) hr1 (Or.inl ?_) _ (by rw [hr])
    rw [hw, hxm, hwx, Nat.pow_succ, ← Nat.mul_assoc m, Nat.mul_comm 2]
end Go.Proofs.YtilffgmekeeohaaDoor
