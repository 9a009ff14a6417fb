
/- What the document's odd does. -/
import Derived.Test.YtpjdmhidhllbkaaDoorP5
import Derived.Test.YtpjdmhidhllbkaaDoorP7
namespace Go.Proofs.YtpjdmhidhllbkaaDoor
open Go.RowKit Go.IntWalk

/-- Below the last zero a halved mantissa is even, and not 0. -/
theorem half_even (m : Nat) (h0 : m ≠ 0) (hm : m < 18446744073709551616) (k : Nat) (hk : k < tzOf m) : m / 2 ^ k ≠ 0 ∧ m / 2 ^ k % 2 = 0 ∧ m / 2 ^ (k + 1) = m / 2 ^ k / 2 := by
  obtain ⟨q, _, hmq⟩ := odd_spec m h0 hm
  obtain ⟨tz, htz⟩ : ∃ tz, tzOf m = tz := ⟨_, rfl⟩
  rw [htz] at hmq hk
  have e0 : tz = k + (tz - k - 1 + 1) := by omega
  have e1 : m / 2 ^ k = 2 * (2 ^ (tz - k - 1) * (2 * q + 1)) := by
    rw [hmq, e0, Nat.pow_add, Nat.mul_assoc, Nat.mul_div_cancel_left _ (Nat.two_pow_pos k), Nat.pow_succ, Nat.mul_comm (2 ^ _) 2, Nat.mul_assoc]
    congr 3
    omega
  have e2 : 2 ^ (tz - k - 1) * (2 * q + 1) ≠ 0 := Nat.mul_ne_zero (Nat.pos_iff_ne_zero.1 (Nat.two_pow_pos _)) (by omega)
  exact ⟨by omega, by omega, by rw [Nat.pow_succ, Nat.div_div_eq_div_mul]⟩
/-- What the loop has come to. -/
def OddR (m : Nat) (e c E : Int) : Prop := ∃ k : Nat, k ≤ tzOf m ∧ ((m / 2 ^ k : Nat) : Int) = c ∧ e + (k : Int) = E
end Go.Proofs.YtpjdmhidhllbkaaDoor
