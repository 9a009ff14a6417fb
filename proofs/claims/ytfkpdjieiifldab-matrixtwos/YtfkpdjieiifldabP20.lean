
/- Arithmetic of numbers where a step may have no answer: a NaN is drawn. -/
import Derived.Test.YtfkpdjieiifldabP19
import Derived.Test.YtfkpdjieiifldabP15
namespace Go.Proofs.Ytfkpdjieiifldab
open Go.RowKit Go.IntWalk

/-- A NaN's bits. -/
def NaNW (x : Nat) : Prop := x < 18446744073709551616 ∧ 9218868437227405312 < x % 9223372036854775808
/-- The NaN that is drawn. -/
def nanF (x y : Nat) (w : World) : Nat := (Question.nanBits .f64 x y).cut (w.tape w.drawn (Question.nanBits .f64 x y))
theorem nan_form (a b : Nat) (ha : a < 2) (hb : b < 2 ^ 52 - 1) : a * 2 ^ 63 + 0x7ff0000000000000 + 1 + b < 18446744073709551616 ∧ 9218868437227405312 < (a * 2 ^ 63 + 0x7ff0000000000000 + 1 + b) % 9223372036854775808 := by
  obtain h | h : a = 0 ∨ a = 1 := by omega
  all_goals (subst h; omega)
theorem nanF_nan (x y : Nat) (w : World) : NaNW (nanF x y w) := by
  show (_ % 2) * 2 ^ 63 + 0x7ff0000000000000 + 1 + (_ / 2) % (2 ^ 52 - 1) < 18446744073709551616 ∧ 9218868437227405312 < ((_ % 2) * 2 ^ 63 + 0x7ff0000000000000 + 1 + (_ / 2) % (2 ^ 52 - 1)) % 9223372036854775808
  exact nan_form _ _ (Nat.mod_lt _ (by decide)) (Nat.mod_lt _ (by decide))
theorem nan_run (op : BinOp) (x y : Nat) (hop : op = .add ∨ op = .sub ∨ op = .mul ∨ op = .quo) (h : floatBits op .f64 x y = none) (t : TypeId) (w : World) : (binOp op t (.float .f64 x) (.float .f64 y)).run Try.prog w = .ok (.float .f64 (nanF x y w)) w.drew := by
  unfold floatBits at h
  unfold nanF
  rcases hop with rfl | rfl | rfl | rfl <;> simp only at h <;> simp [binOp, Op.floatArith, h, Question.forced]
theorem nan_l (x y : Nat) (h : NaNW x) : FloatKind.f64.format.add x y = none ∧ FloatKind.f64.format.sub x y = none ∧ FloatKind.f64.format.mul x y = none := by
  obtain ⟨s, t, e⟩ := read_nan x h.2
  unfold Ieee.Format.add Ieee.Format.sub Ieee.Format.mul
  rw [e]
  exact ⟨rfl, rfl, rfl⟩
theorem nan_r (x y : Nat) (h : NaNW y) : FloatKind.f64.format.add x y = none ∧ FloatKind.f64.format.sub x y = none ∧ FloatKind.f64.format.mul x y = none := by
  obtain ⟨s, t, e⟩ := read_nan y h.2
  unfold Ieee.Format.add Ieee.Format.sub Ieee.Format.mul
  rw [e]
  refine ⟨?_, ?_, ?_⟩ <;> cases FloatKind.f64.format.read x <;> rfl
theorem canon_nan {x : Nat} (h : NaNW x) : canonOf x = 9221120237041090561 := by unfold canonOf; rw [if_pos h.2]
theorem sign_top (s : Bool) (r : Nat) (h : r ≤ 9218868437227405312) : signN s r < 18446744073709551616 := (signN_mod s r (by omega)).2.2
theorem write_lt (d : Ieee.Datum) (h : ∀ s t, d ≠ .nan s t) : FloatKind.f64.format.write d < 18446744073709551616 := by
  cases d with
  | nan s t => exact absurd rfl (h s t)
  | infinity s => cases s <;> decide +kernel
  | number s m p =>
    show FloatKind.f64.format.nearest s m p < _
    rw [(near_rnd s m p).1]
    exact sign_top s _ (near_rnd s m p).2
theorem sum_nn (a b d : Ieee.Datum) (h : a.sum b = some d) : ∀ s t, d ≠ .nan s t := by
  intro s t hd
  subst hd
  cases a <;> cases b <;> simp [Ieee.Datum.sum] at h
theorem prod_nn (a b d : Ieee.Datum) (h : a.product b = some d) : ∀ s t, d ≠ .nan s t := by
  intro s t hd
  subst hd
  cases a <;> cases b <;> simp [Ieee.Datum.product] at h
theorem ar_lt {x y z : Nat} (h : FloatKind.f64.format.add x y = some z ∨ FloatKind.f64.format.sub x y = some z ∨ FloatKind.f64.format.mul x y = some z) : z < 18446744073709551616 := by
  rcases h with h | h | h
  · unfold Ieee.Format.add at h
    obtain ⟨d, hd, rfl⟩ := Option.map_eq_some_iff.1 h
    exact write_lt d (sum_nn _ _ d hd)
  · unfold Ieee.Format.sub at h
    obtain ⟨d, hd, rfl⟩ := Option.map_eq_some_iff.1 h
    exact write_lt d (sum_nn _ _ d hd)
  · unfold Ieee.Format.mul at h
    obtain ⟨d, hd, rfl⟩ := Option.map_eq_some_iff.1 h
    exact write_lt d (prod_nn _ _ d hd)
end Go.Proofs.Ytfkpdjieiifldab
