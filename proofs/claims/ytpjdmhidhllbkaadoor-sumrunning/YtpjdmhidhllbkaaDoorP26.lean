
/- What the document's Bits, Split, Class and Finite do (as in Places, RefFields, FieldsWalk, without the laws' own functions). -/
import Derived.Test.YtpjdmhidhllbkaaDoorP7
import Derived.Test.YtpjdmhidhllbkaaDoorP2
import Derived.Test.YtpjdmhidhllbkaaDoorP21
namespace Go.Proofs.YtpjdmhidhllbkaaDoor
open Go.RowKit Go.IntWalk

set_option maxHeartbeats 400000 in
theorem bits_any (x : Nat) (w : World) (hx : x < 18446744073709551616) :
    Calls Tryd.prog 21 #[.float .f64 x] w fun e w' => e = .returned (.int .u64 (canonOf x)) ∧ w' = w := by
  have h1 := f64bits
  have ho := order_self x hx
  by_cases h : 9218868437227405312 < x % 9223372036854775808
  · rw [decide_eq_true h] at ho
    have H : Hid (9218868437227405312 < x % 9223372036854775808) := h
    clear h
    go_enter Tryd.func21, Tryd.ntmps21
    go_wp2
    go_ret
    exact ⟨ret_int (by unfold canonOf; rw [if_pos H.out]; rfl), rfl⟩
  · rw [decide_eq_false h] at ho
    have H : Hid (¬ 9218868437227405312 < x % 9223372036854775808) := h
    clear h
    go_enter Tryd.func21, Tryd.ntmps21
    go_wp2
    go_ret
    exact ⟨ret_int (by unfold canonOf; rw [if_neg H.out]), rfl⟩

theorem neg_r {x : Nat} (hx : x < 18446744073709551616) : ((canonOf x : Int) / 9223372036854775808 == 1) = negOf x := by
  have hl := canon_lt hx
  unfold negOf
  rw [Bool.eq_iff_iff, beq_iff_eq, decide_eq_true_eq]
  omega
theorem exp_r {x : Nat} (hx : x < 18446744073709551616) : (canonOf x : Int) / 4503599627370496 % 2048 = (expOf x : Int) := by
  have hl := canon_lt hx
  unfold expOf
  omega
theorem frac_r (x : Nat) : (canonOf x : Int) % 4503599627370496 = (fracOf x : Int) := by
  unfold fracOf
  omega

theorem class_fin (x : Nat) : decide ((2 : Int) < (classN x : Int)) = !(expOf x == 2047) := by
  unfold classN
  by_cases h : expOf x = 2047
  · rw [if_pos h, h]; split <;> rfl
  · rw [if_neg h]
    have : (expOf x == 2047) = false := by simpa using h
    rw [this]
    split
    · split <;> rfl
    · rfl
end Go.Proofs.YtpjdmhidhllbkaaDoor
