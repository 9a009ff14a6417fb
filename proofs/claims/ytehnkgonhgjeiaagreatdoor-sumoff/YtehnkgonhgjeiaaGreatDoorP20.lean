
/- What the document's odd does. -/
import Derived.Test.YtehnkgonhgjeiaaGreatDoorP5
import Derived.Test.YtehnkgonhgjeiaaGreatDoorP7
namespace Go.Proofs.YtehnkgonhgjeiaaGreatDoor
open Go.RowKit Go.IntWalk

/-- Below the last zero a halved mantissa is even, and not 0. -/
theorem half_even (m : Nat) (h0 : m ≠ 0) (hm : m < 18446744073709551616) (k : Nat) (hk : k < tzOf m) : m / 2 ^ k ≠ 0 ∧ m / 2 ^ k % 2 = 0 ∧ m / 2 ^ (k + 1) = m / 2 ^ k / 2 := by
  obtain ⟨q, _, hmq⟩ := odd_spec m h0 hm
  obtain ⟨tz, htz⟩ : ∃ tz, tzOf m = tz := ⟨_, rfl⟩
  rw [htz] at hmq hk
  have e0 : tz = k + (tz - k - 1 + 1) := by omega
  have e1 : m / 2 ^ k = 2 * (2 ^ (tz - k - 1) * (2 * q + 1)) := by
    rw [hmq, e0, Nat.pow_add, Nat.mul_assoc, Nat.mul_div_cancel_left _ (Nat.two_pow_pos k), Nat.pow_succ, Nat.mul_comm (2 ^ _) 2, Nat.mul_assoc]
    congr 3
    omega
  have e2 : 2 ^ (tz - k - 1) * (2 * q + 1) ≠ 0 := Nat.mul_ne_zero (Nat.pos_iff_ne_zero.1 (Nat.two_pow_pos _)) (by omega)
  exact ⟨by omega, by omega, by rw [Nat.pow_succ, Nat.div_div_eq_div_mul]⟩
set_option maxHeartbeats 400000 in
theorem rodd_zero (e : Int) (w : World) :
    Calls Tryz.prog 154 #[.int .u64 0, .int .i64 e] w fun r w' => r = .returned (.tuple #[.int .u64 0, .int .i64 0]) ∧ w' = w := by
  go_enter Tryz.func154, Tryz.ntmps154
  go_wp2
  go_ret2
  exact ⟨rfl, rfl⟩
/-- What the loop has come to. -/
def OddR (m : Nat) (e c E : Int) : Prop := ∃ k : Nat, k ≤ tzOf m ∧ ((m / 2 ^ k : Nat) : Int) = c ∧ e + (k : Int) = E
set_option maxRecDepth 4000 in
set_option maxHeartbeats 800000 in
theorem rodd_any (m : Nat) (e : Int) (w : World) (hm : m < 18446744073709551616) (h0 : m ≠ 0) (he1 : -3000 ≤ e) (he2 : e ≤ 3000) :
    Calls Tryz.prog 154 #[.int .u64 m, .int .i64 e] w fun r w' => r = .returned (.tuple #[.int .u64 (oddOf m), .int .i64 (e + (tzOf m : Int))]) ∧ w' = w := by
  obtain ⟨q, hq, _⟩ := odd_spec m h0 hm
  have HT6 : Hid (tzOf m ≤ 63) := by have := (tz_spec m h0 hm).1; show tzOf m ≤ 63; omega
  have HSTEP : Hid (∀ c E, OddR m e c E → (0 ≤ c ∧ c ≤ 18446744073709551615 ∧ -3000 ≤ E ∧ E ≤ 3100 ∧ 0 ≤ E - e) ∧ ((c % 2 = 0 ∧ OddR m e (c / 2) (E + 1) ∧ E - e < 64) ∨ (c % 2 = 1 ∧ c = (oddOf m : Int) ∧ E = e + (tzOf m : Int)))) := by
    rintro c E ⟨k, hk, rfl, rfl⟩
    have h6 := HT6.out
    have h7 : m / 2 ^ k ≤ m := Nat.div_le_self _ _
    obtain ⟨d, hd⟩ : ∃ d, m / 2 ^ k = d := ⟨_, rfl⟩
    rw [hd] at h7 ⊢
    refine ⟨⟨by omega, by omega, by omega, by omega, by omega⟩, ?_⟩
    by_cases hlt : k < tzOf m
    · obtain ⟨g1, g2, g3⟩ := half_even m h0 hm k hlt
      rw [hd] at g1 g2 g3
      left
      refine ⟨by omega, ⟨k + 1, hlt, ?_, by omega⟩, by omega⟩
      rw [g3]
      omega
    · have hkz : k = tzOf m := by omega
      right
      have ho : d = oddOf m := by rw [← hd, hkz]; rfl
      rw [ho]
      exact ⟨by omega, rfl, by rw [hkz]⟩
  have HST : Hid (OddR m e (m : Int) e) := ⟨0, Nat.zero_le _, by rw [Nat.pow_zero, Nat.div_one], by omega⟩
  obtain ⟨M, hM⟩ : ∃ M : Int, Hid ((m : Int) = M) := ⟨_, rfl⟩
  obtain ⟨R1, hR1⟩ : ∃ M : Int, Hid ((oddOf m : Int) = M) := ⟨_, rfl⟩
  obtain ⟨R2, hR2⟩ : ∃ M : Int, Hid (e + (tzOf m : Int) = M) := ⟨_, rfl⟩
  have hM0 : ¬ M = 0 := by have := hM.out; omega
  rw [hM.out] at HST ⊢
  rw [hR1.out] at HSTEP ⊢
  rw [hR2.out] at HSTEP ⊢
  clear hm h0 hq he1 he2
  go_enter Tryz.func154, Tryz.ntmps154
  go_wp2
  go_loop [0, 1] (fun a b => ∃ c E : Int, Hid (OddR m e c E) ∧ a = .int .u64 c ∧ b = .int .i64 E) (fun _ b => 64 - (intOf b - e).toNat)
  case atStart => exact ⟨M, e, HST, rfl, rfl⟩
  case round =>
    obtain ⟨c, E, HR, rfl, rfl⟩ := hrel
    obtain ⟨⟨b1, b2, b3, b4, b5⟩, hcase⟩ := HSTEP.out c E HR.out
    rcases hcase with ⟨hev, hnx, hms⟩ | ⟨hod, rfl, rfl⟩
    · have HN := hid hnx
      have HMS := hid (And.intro hms b5)
      have ht1 : c.tmod 2 = 0 := by rw [Int.tmod_eq_emod_of_nonneg b1]; exact hev
      have ht2 : c.tdiv 2 = c / 2 := Int.tdiv_eq_ediv_of_nonneg b1
      have hw1 : IntKind.u64.wrap (c / 2) = c / 2 := by rw [IntKind.wrap_u64]; omega
      have hw2 : IntKind.i64.wrap (E + 1) = E + 1 := by rw [IntWalk.i64_in _ (by omega)]
      clear hnx hms
      go_wp2
      go_round
      case rel => exact ⟨c / 2, E + 1, HN, rfl, rfl⟩
      case measure => have := HMS.out; simp [intOf]; omega
    · have ht1 : ¬ c.tmod 2 = 0 := by rw [Int.tmod_eq_emod_of_nonneg b1]; omega
      go_wp2
      go_ret2
      exact ⟨rfl, rfl⟩
end Go.Proofs.YtehnkgonhgjeiaaGreatDoor
