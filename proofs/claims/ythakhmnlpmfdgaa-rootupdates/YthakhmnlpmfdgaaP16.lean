
/- What eft's Two, Split and Prod do where each step has an answer; Canon. -/
import Derived.Test.YthakhmnlpmfdgaaP6
import Derived.Test.YthakhmnlpmfdgaaP11
import Derived.Test.YthakhmnlpmfdgaaP12
namespace Go.Proofs.Ythakhmnlpmfdgaa
open Go.RowKit Go.IntWalk

theorem f_add {x y z : Nat} (h : FloatKind.f64.format.add x y = some z) (w : World) : (binOp .add 28 (.float .f64 x) (.float .f64 y)).run Try.prog w = .ok (.float .f64 z) w := run_float_arith w .add _ .f64 x y z h
theorem f_sub {x y z : Nat} (h : FloatKind.f64.format.sub x y = some z) (w : World) : (binOp .sub 28 (.float .f64 x) (.float .f64 y)).run Try.prog w = .ok (.float .f64 z) w := run_float_arith w .sub _ .f64 x y z h
theorem f_mul {x y z : Nat} (h : FloatKind.f64.format.mul x y = some z) (w : World) : (binOp .mul 28 (.float .f64 x) (.float .f64 y)).run Try.prog w = .ok (.float .f64 z) w := run_float_arith w .mul _ .f64 x y z h
end Go.Proofs.Ythakhmnlpmfdgaa

namespace Go.Proofs.Ythakhmnlpmfdgaa
open Go.RowKit Go.IntWalk

theorem o1 : (FloatKind.f64.format.order 4607182418800017408 0 == some .eq) = false ∧ (FloatKind.f64.format.order 4607182418800017408 4607182418800017408 != some .eq) = false ∧ (FloatKind.f64.format.order 4607182418800017408 9218868437227405311 == some .gt) = false ∧ (FloatKind.f64.format.order 4607182418800017408 4503599627370496 == some .lt) = false := by decide +kernel
theorem f64fromI3 (n : Int) (w : World) : (callFunc 23 #[.int .u64 n]).run Try.prog w = .ok (.value (.float .f64 n.toNat)) w := by
  rw [run_callFunc_extern Try.func23 (by kernel_rfl) (by kernel_rfl) (by kernel_rfl) (e := Extern.MathFloatBits.float64frombits) (by kernel_rfl)]; rfl
theorem bt1 : bits .andNot .u64 4607182418800017408 9223372036854775808 = 4607182418800017408 ∧ bits .and .i64 1023 2047 = 1023 ∧ bits .andNot .u64 4607182418800017408 9218868437227405312 = 0 ∧ bits .or .u64 0 4877398396442247168 = 4877398396442247168 := by decide +kernel
set_option maxHeartbeats 1000000 in
theorem abs_one (w : World) : Calls Try.prog 106 #[.float .f64 4607182418800017408] w fun r w' => r = .returned (.float .f64 4607182418800017408) ∧ w' = w := by
  have h1 := f64bits
  have h2 := f64fromI3
  obtain ⟨b1, _⟩ := bt1
  go_enter Try.func106, Try.ntmps106
  go_wp2
  go_ret
  exact ⟨rfl, rfl⟩
end Go.Proofs.Ythakhmnlpmfdgaa

namespace Go.Proofs.Ythakhmnlpmfdgaa
open Go.RowKit Go.IntWalk

/-- A NaN's bits. -/
def NaNW (x : Nat) : Prop := x < 18446744073709551616 ∧ 9218868437227405312 < x % 9223372036854775808
/-- The NaN that is drawn. -/
def nanF (x y : Nat) (w : World) : Nat := (Question.nanBits .f64 x y).cut (w.tape w.drawn (Question.nanBits .f64 x y))
theorem nan_form (a b : Nat) (ha : a < 2) (hb : b < 2 ^ 52 - 1) : a * 2 ^ 63 + 0x7ff0000000000000 + 1 + b < 18446744073709551616 ∧ 9218868437227405312 < (a * 2 ^ 63 + 0x7ff0000000000000 + 1 + b) % 9223372036854775808 := by
  obtain h | h : a = 0 ∨ a = 1 := by omega
  all_goals (subst h; omega)
theorem nanF_nan (x y : Nat) (w : World) : NaNW (nanF x y w) := by
  show (_ % 2) * 2 ^ 63 + 0x7ff0000000000000 + 1 + (_ / 2) % (2 ^ 52 - 1) < 18446744073709551616 ∧ 9218868437227405312 < ((_ % 2) * 2 ^ 63 + 0x7ff0000000000000 + 1 + (_ / 2) % (2 ^ 52 - 1)) % 9223372036854775808
  exact nan_form _ _ (Nat.mod_lt _ (by decide)) (Nat.mod_lt _ (by decide))
theorem nan_run (op : BinOp) (x y : Nat) (hop : op = .add ∨ op = .sub ∨ op = .mul ∨ op = .quo) (h : floatBits op .f64 x y = none) (t : TypeId) (w : World) : (binOp op t (.float .f64 x) (.float .f64 y)).run Try.prog w = .ok (.float .f64 (nanF x y w)) w.drew := by
  unfold floatBits at h
  unfold nanF
  rcases hop with rfl | rfl | rfl | rfl <;> simp only at h <;> simp [binOp, Op.floatArith, h, Question.forced]
theorem nan_l (x y : Nat) (h : NaNW x) : FloatKind.f64.format.add x y = none ∧ FloatKind.f64.format.sub x y = none ∧ FloatKind.f64.format.mul x y = none := by
  obtain ⟨s, t, e⟩ := read_nan x h.2
  unfold Ieee.Format.add Ieee.Format.sub Ieee.Format.mul
  rw [e]
  exact ⟨rfl, rfl, rfl⟩
theorem nan_r (x y : Nat) (h : NaNW y) : FloatKind.f64.format.add x y = none ∧ FloatKind.f64.format.sub x y = none ∧ FloatKind.f64.format.mul x y = none := by
  obtain ⟨s, t, e⟩ := read_nan y h.2
  unfold Ieee.Format.add Ieee.Format.sub Ieee.Format.mul
  rw [e]
  refine ⟨?_, ?_, ?_⟩ <;> cases FloatKind.f64.format.read x <;> rfl
theorem canon_nan {x : Nat} (h : NaNW x) : canonOf x = 9221120237041090561 := by unfold canonOf; rw [if_pos h.2]
theorem sign_top (s : Bool) (r : Nat) (h : r ≤ 9218868437227405312) : signN s r < 18446744073709551616 := (signN_mod s r (by omega)).2.2
theorem write_lt (d : Ieee.Datum) (h : ∀ s t, d ≠ .nan s t) : FloatKind.f64.format.write d < 18446744073709551616 := by
  cases d with
  | nan s t => exact absurd rfl (h s t)
  | infinity s => cases s <;> decide +kernel
  | number s m p =>
    show FloatKind.f64.format.nearest s m p < _
    rw [(near_rnd s m p).1]
    exact sign_top s _ (near_rnd s m p).2
theorem sum_nn (a b d : Ieee.Datum) (h : a.sum b = some d) : ∀ s t, d ≠ .nan s t := by
  intro s t hd
  subst hd
  cases a <;> cases b <;> simp [Ieee.Datum.sum] at h
theorem prod_nn (a b d : Ieee.Datum) (h : a.product b = some d) : ∀ s t, d ≠ .nan s t := by
  intro s t hd
  subst hd
  cases a <;> cases b <;> simp [Ieee.Datum.product] at h
theorem ar_lt {x y z : Nat} (h : FloatKind.f64.format.add x y = some z ∨ FloatKind.f64.format.sub x y = some z ∨ FloatKind.f64.format.mul x y = some z) : z < 18446744073709551616 := by
  rcases h with h | h | h
  · unfold Ieee.Format.add at h
    obtain ⟨d, hd, rfl⟩ := Option.map_eq_some_iff.1 h
    exact write_lt d (sum_nn _ _ d hd)
  · unfold Ieee.Format.sub at h
    obtain ⟨d, hd, rfl⟩ := Option.map_eq_some_iff.1 h
    exact write_lt d (sum_nn _ _ d hd)
  · unfold Ieee.Format.mul at h
    obtain ⟨d, hd, rfl⟩ := Option.map_eq_some_iff.1 h
    exact write_lt d (prod_nn _ _ d hd)
end Go.Proofs.Ythakhmnlpmfdgaa

namespace Go.Proofs.Ythakhmnlpmfdgaa
open Go.RowKit Go.IntWalk

/-- The bits of a sum, difference, product: where there is none, a NaN that is drawn. -/
def arF (op : BinOp) (x y : Nat) (w : World) : Nat := (floatBits op .f64 x y).getD (nanF x y w)
def arG (op : BinOp) (x y : Nat) (w : World) : World := if (floatBits op .f64 x y).isSome then w else w.drew
/-- The same of canonical numbers. -/
def caf (op : BinOp) (x y : Nat) : Nat := ((floatBits op .f64 x y).map canonOf).getD 9221120237041090561
theorem ar_run (op : BinOp) (hop : op = .add ∨ op = .sub ∨ op = .mul) (x y : Nat) (w : World) : (binOp op 28 (.float .f64 x) (.float .f64 y)).run Try.prog w = .ok (.float .f64 (arF op x y w)) (arG op x y w) := by
  unfold arF arG
  cases h : floatBits op .f64 x y with
  | none =>
    have := nan_run op x y (by rcases hop with h | h | h <;> simp [h]) h 28 w
    simpa using this
  | some z =>
    simp only [Option.getD_some, Option.isSome_some, if_true]
    rcases hop with rfl | rfl | rfl <;> exact run_float_arith w _ _ .f64 x y z h
theorem arG_heap (op : BinOp) (x y : Nat) (w : World) : (arG op x y w).heap = w.heap := by unfold arG; split <;> rfl
theorem bl_ar {B : Nat} {w W : World} (h : Below B w W) (op : BinOp) (x y : Nat) : Below B w (arG op x y W) := by
  unfold arG
  split
  · exact h
  · exact h.drew
theorem fb_lt {op : BinOp} (hop : op = .add ∨ op = .sub ∨ op = .mul) {x y z : Nat} (h : floatBits op .f64 x y = some z) : z < 18446744073709551616 := by
  rcases hop with rfl | rfl | rfl
  · exact ar_lt (Or.inl h)
  · exact ar_lt (Or.inr (Or.inl h))
  · exact ar_lt (Or.inr (Or.inr h))
theorem arF_lt {op : BinOp} (hop : op = .add ∨ op = .sub ∨ op = .mul) (x y : Nat) (w : World) : arF op x y w < 18446744073709551616 := by
  unfold arF
  cases h : floatBits op .f64 x y with
  | none => exact (nanF_nan x y w).1
  | some z => exact fb_lt hop h
theorem fb_nan {op : BinOp} (hop : op = .add ∨ op = .sub ∨ op = .mul) {x y : Nat} (h : NaNW x ∨ NaNW y) : floatBits op .f64 x y = none := by
  rcases h with h | h
  · obtain ⟨h1, h2, h3⟩ := nan_l x y h
    rcases hop with rfl | rfl | rfl
    · exact h1
    · exact h2
    · exact h3
  · obtain ⟨h1, h2, h3⟩ := nan_r x y h
    rcases hop with rfl | rfl | rfl
    · exact h1
    · exact h2
    · exact h3
theorem canon_is (x : Nat) (hx : x < 18446744073709551616) : (NaNW x ∧ canonOf x = 9221120237041090561) ∨ (¬ NaNW x ∧ canonOf x = x) := by
  by_cases h : 9218868437227405312 < x % 9223372036854775808
  · exact Or.inl ⟨⟨hx, h⟩, canon_nan ⟨hx, h⟩⟩
  · exact Or.inr ⟨fun c => h c.2, by unfold canonOf; rw [if_neg h]⟩
theorem nan_can : NaNW 9221120237041090561 := by unfold NaNW; decide
/-- The canonical answer hangs on the canonical numbers alone. -/
theorem canon_ar {op : BinOp} (hop : op = .add ∨ op = .sub ∨ op = .mul) (x y : Nat) (w : World) (hx : x < 18446744073709551616) (hy : y < 18446744073709551616) : canonOf (arF op x y w) = caf op (canonOf x) (canonOf y) := by
  unfold arF caf
  have key : ∀ {u v : Nat}, NaNW u ∨ NaNW v → ((floatBits op .f64 u v).map canonOf).getD 9221120237041090561 = 9221120237041090561 := fun h => by rw [fb_nan hop h]; rfl
  rcases canon_is x hx with ⟨n1, e1⟩ | ⟨n1, e1⟩
  · rw [e1, key (Or.inl nan_can), fb_nan hop (Or.inl n1)]
    exact canon_nan (nanF_nan x y w)
  · rcases canon_is y hy with ⟨n2, e2⟩ | ⟨n2, e2⟩
    · rw [e2, key (Or.inr nan_can), fb_nan hop (Or.inr n2)]
      exact canon_nan (nanF_nan x y w)
    · rw [e1, e2]
      cases h : floatBits op .f64 x y with
      | none => exact canon_nan (nanF_nan x y w)
      | some z => rfl
theorem ok_a : BinOp.add = .add ∨ BinOp.add = .sub ∨ BinOp.add = .mul := Or.inl rfl
theorem ok_s : BinOp.sub = .add ∨ BinOp.sub = .sub ∨ BinOp.sub = .mul := Or.inr (Or.inl rfl)
theorem ok_m : BinOp.mul = .add ∨ BinOp.mul = .sub ∨ BinOp.mul = .mul := Or.inr (Or.inr rfl)
/-- The two answers of Two, of Quick, of Split, of canonical numbers. -/
def twoS (a b : Nat) : Nat := caf .add a b
def twoE (a b : Nat) : Nat := caf .add (caf .sub a (caf .sub (twoS a b) (caf .sub (twoS a b) a))) (caf .sub b (caf .sub (twoS a b) a))
def quickE (a b : Nat) : Nat := caf .sub b (caf .sub (twoS a b) a)
def splitH (a : Nat) : Nat := caf .sub (caf .mul 4728779608772575232 a) (caf .sub (caf .mul 4728779608772575232 a) a)
def splitL (a : Nat) : Nat := caf .sub a (splitH a)
theorem canon_k : canonOf 4728779608772575232 = 4728779608772575232 := by decide
theorem canon_twice (x : Nat) : canonOf (canonOf x) = canonOf x := by
  unfold canonOf
  by_cases h : 9218868437227405312 < x % 9223372036854775808
  · rw [if_pos h]; decide
  · rw [if_neg h, if_neg h]
theorem caf_can (op : BinOp) (x y : Nat) : canonOf (caf op x y) = caf op x y := by
  unfold caf
  cases floatBits op .f64 x y with
  | none => decide
  | some z => exact canon_twice z
theorem caf_lt (op : BinOp) (hop : op = .add ∨ op = .sub ∨ op = .mul) (x y : Nat) : caf op x y < 18446744073709551616 := by
  unfold caf
  cases h : floatBits op .f64 x y with
  | none => decide
  | some z => exact canon_lt (fb_lt hop h)
def prodE (a b : Nat) : Nat := caf .sub (caf .mul (splitL a) (splitL b)) (caf .sub (caf .sub (caf .sub (caf .mul a b) (caf .mul (splitH a) (splitH b))) (caf .mul (splitL a) (splitH b))) (caf .mul (splitH a) (splitL b)))
theorem split_can (a : Nat) : canonOf (splitH a) = splitH a ∧ canonOf (splitL a) = splitL a ∧ splitH a < 18446744073709551616 ∧ splitL a < 18446744073709551616 := ⟨caf_can _ _ _, caf_can _ _ _, caf_lt _ ok_s _ _, caf_lt _ ok_s _ _⟩
end Go.Proofs.Ythakhmnlpmfdgaa
