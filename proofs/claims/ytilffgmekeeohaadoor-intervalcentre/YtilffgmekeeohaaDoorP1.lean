
/- Plain arithmetic on the bits of numbers: magnitudes, the one NaN, places in the total order; no program is spoken of. -/
import Derived.WalkKit
import Derived.WalkSmall
import Derived.Laws.BitsAllLaws
import Derived.Laws.Bits64
import Derived.Laws.ShiftsVarLaws
import Derived.Test.YtilffgmekeeohaaDoorRows
import Derived.WalkSpells
import Derived.WalkLawsBesides
import Derived.Deep.RegionHeld3
import Derived.Deep.QuietTactic
import Derived.BigQuiet
namespace Go.Proofs.YtilffgmekeeohaaDoor
open Go Go.RowKit Go.IntWalk

/-- The bits with all NaNs made one. -/
def canonOf (x : Nat) : Nat := if 9218868437227405312 < x % 9223372036854775808 then 9221120237041090561 else x
/-- The place in the total order. -/
def keyOf (x : Nat) : Int :=
  if 9218868437227405312 < x % 9223372036854775808 then 9218868437227405313
  else if 9223372036854775808 ≤ x then -1 - ((x % 9223372036854775808 : Nat) : Int) else ((x % 9223372036854775808 : Nat) : Int)

theorem hid {p : Prop} (h : p) : Hid p := h
theorem ret_int {k : IntKind} {a b : Int} (h : a = b) : Ending.returned (.int k a) = .returned (.int k b) := by rw [h]
theorem ret_bool {a b : Bool} (h : a = b) : Ending.returned (.bool a) = .returned (.bool b) := by rw [h]

theorem ret_bii {a a' : Bool} {k k2 : IntKind} {b b' c c' : Int} (h0 : a = a') (h1 : b = b') (h2 : c = c') : Ending.returned (.tuple #[.bool a, .int k b, .int k2 c]) = .returned (.tuple #[.bool a', .int k b', .int k2 c']) := by rw [h0, h1, h2]
theorem ret_ii {k k2 : IntKind} {b b' c c' : Int} (h1 : b = b') (h2 : c = c') : Ending.returned (.tuple #[.int k b, .int k2 c]) = .returned (.tuple #[.int k b', .int k2 c']) := by rw [h1, h2]
theorem ret_parts {a a' : Bool} {b b' c c' d d' : Int} (h0 : a = a') (h1 : b = b') (h2 : c = c') (h3 : d = d') : Ending.returned (.tuple #[.agg #[.bool a, .int .u64 b, .int .i64 c], .int .i64 d]) = .returned (.tuple #[.agg #[.bool a', .int .u64 b', .int .i64 c'], .int .i64 d']) := by rw [h0, h1, h2, h3]
theorem ret_fi {a a' : Nat} {c c' : Int} (h1 : a = a') (h2 : c = c') : Ending.returned (.tuple #[.float .f64 a, .int .i64 c]) = .returned (.tuple #[.float .f64 a', .int .i64 c']) := by rw [h1, h2]
theorem ret_f {a a' : Nat} (h1 : a = a') : Ending.returned (.float .f64 a) = .returned (.float .f64 a') := by rw [h1]
theorem bl_alloc {w w1 : World} {o : Obj} (hb : Below (w.alloc o).heap.size (w.alloc o) w1) : Below w.heap.size w w1 := ((Below.refl _ _).alloc (Nat.le_refl _) _).trans (hb.mono (by simp))
theorem bl_alloc2 {w w1 : World} {o o2 : Obj} (hb : Below ((w.alloc o).alloc o2).heap.size ((w.alloc o).alloc o2) w1) : Below w.heap.size w w1 := (((Below.refl _ _).alloc (Nat.le_refl _) _).alloc (by simp) _).trans (hb.mono (by simp; omega))
theorem bl_al {w w1 : World} (h : Below w.heap.size w w1) (o : Obj) : Below w.heap.size w (w1.alloc o) := h.alloc h.size o
theorem bl_then {w w1 w2 : World} (h1 : Below w.heap.size w w1) (h2 : Below w1.heap.size w1 w2) : Below w.heap.size w w2 := h1.trans (h2.mono h1.size)
theorem bl_drewN {w w1 : World} (n : Nat) (h1 : Below w.heap.size w w1) : Below w.heap.size w (w1.drewN n) := below_drewN h1 n

theorem nat_beq (a b : Nat) : ((a : Int) == (b : Int)) = (a == b) := by
  rw [Bool.eq_iff_iff]; simp only [beq_iff_eq]; omega

theorem andNot_sign (x : Nat) (hx : x < 18446744073709551616) :
    bits .andNot .u64 (x : Int) 9223372036854775808 = ((x % 9223372036854775808 : Nat) : Int) := by
  have h := u64_andNot_nat x 9223372036854775808 hx (by omega)
  have e : x &&& (18446744073709551615 - 9223372036854775808) = x % 9223372036854775808 := by
    have := Nat.and_two_pow_sub_one_eq_mod x 63
    simpa using this
  rw [e] at h
  exact h
theorem and_sign (x : Nat) (hx : x < 18446744073709551616) :
    bits .and .u64 (x : Int) 9223372036854775808 = ((if 9223372036854775808 ≤ x then 9223372036854775808 else 0 : Nat) : Int) := by
  have h := u64_and_nat x 9223372036854775808 hx (by omega)
  have e : x &&& 9223372036854775808 = if 9223372036854775808 ≤ x then 9223372036854775808 else 0 := by
    have h1 := and_bit_var 64 x 63 (by omega)
    have h2 : ((2 : Int) ^ min (63 : Int).toNat 64 % 2 ^ 64).toNat = 9223372036854775808 := by decide
    rw [h2, if_neg (by omega)] at h1
    rw [h1]
    have h3 : (2 : Nat) ^ (63 : Int).toNat = 9223372036854775808 := by decide
    rw [h3]
    split <;> omega
  rw [e] at h
  exact h

theorem key_w1 {x : Nat} (hx : x < 18446744073709551616) (h : 9218868437227405312 < wrap64 (bits .andNot .u64 (x : Int) 9223372036854775808)) :
    (9218868437227405313 : Int) = keyOf x := by
  rw [andNot_sign x hx, wrap64_in _ (by omega)] at h
  unfold keyOf
  rw [if_pos (by omega)]
theorem key_w2 {x : Nat} (hx : x < 18446744073709551616) (h : wrap64 (bits .andNot .u64 (x : Int) 9223372036854775808) ≤ 9218868437227405312)
    (h2 : (bits .and .u64 (x : Int) 9223372036854775808 != 0) = true) :
    wrap64 (-1 - wrap64 (bits .andNot .u64 (x : Int) 9223372036854775808)) = keyOf x := by
  rw [andNot_sign x hx] at h ⊢
  rw [wrap64_in ((x % 9223372036854775808 : Nat) : Int) (by omega)] at h ⊢
  rw [wrap64_in _ (by omega)]
  rw [and_sign x hx] at h2
  have h3 : 9223372036854775808 ≤ x := by
    apply Classical.byContradiction
    intro h4
    rw [if_neg h4] at h2
    simp at h2
  unfold keyOf
  rw [if_neg (by omega), if_pos h3]
theorem key_w3 {x : Nat} (hx : x < 18446744073709551616) (h : wrap64 (bits .andNot .u64 (x : Int) 9223372036854775808) ≤ 9218868437227405312)
    (h2 : (bits .and .u64 (x : Int) 9223372036854775808 != 0) = false) :
    wrap64 (bits .andNot .u64 (x : Int) 9223372036854775808) = keyOf x := by
  rw [andNot_sign x hx] at h ⊢
  rw [wrap64_in ((x % 9223372036854775808 : Nat) : Int) (by omega)] at h ⊢
  rw [and_sign x hx] at h2
  have h3 : ¬ 9223372036854775808 ≤ x := by
    intro h4
    rw [if_pos h4] at h2
    simp at h2
  unfold keyOf
  rw [if_neg (by omega), if_neg h3]
theorem canon_w1 {x : Nat} (hx : x < 18446744073709551616) (h : 9218868437227405312 < bits .andNot .u64 (x : Int) 9223372036854775808) :
    (9221120237041090561 : Int) = (canonOf x : Int) := by
  rw [andNot_sign x hx] at h
  unfold canonOf
  rw [if_pos (by omega)]; rfl
theorem canon_w2 {x : Nat} (hx : x < 18446744073709551616) (h : bits .andNot .u64 (x : Int) 9223372036854775808 ≤ 9218868437227405312) :
    (x : Int) = (canonOf x : Int) := by
  rw [andNot_sign x hx] at h
  unfold canonOf
  rw [if_neg (by omega)]
theorem canon_lt {x : Nat} (hx : x < 18446744073709551616) : canonOf x < 18446744073709551616 := by
  unfold canonOf; split <;> omega
/-- The fields: the sign, the exponent's, the fraction's. -/
def negOf (x : Nat) : Bool := decide (9223372036854775808 ≤ canonOf x)
def expOf (x : Nat) : Nat := canonOf x / 4503599627370496 % 2048
def fracOf (x : Nat) : Nat := canonOf x % 4503599627370496
theorem and_frac (x : Nat) (hx : x < 18446744073709551616) : bits .and .u64 (x : Int) 4503599627370495 = ((x % 4503599627370496 : Nat) : Int) := by
  have h := u64_and_nat x 4503599627370495 hx (by omega)
  have e : x &&& 4503599627370495 = x % 4503599627370496 := by
    have := Nat.and_two_pow_sub_one_eq_mod x 52
    simpa using this
  rw [e] at h
  exact h
theorem and_exp (x : Nat) (hx : x < 18446744073709551616) : bits .and .u64 (x : Int) 2047 = ((x % 2048 : Nat) : Int) := by
  have h := u64_and_nat x 2047 hx (by omega)
  have e : x &&& 2047 = x % 2048 := by
    have := Nat.and_two_pow_sub_one_eq_mod x 11
    simpa using this
  rw [e] at h
  exact h
theorem neg_w {x : Nat} (hx : x < 18446744073709551616) : (bits .and .u64 (canonOf x : Int) 9223372036854775808 != 0) = negOf x := by
  rw [and_sign _ (canon_lt hx)]
  unfold negOf
  by_cases h : 9223372036854775808 ≤ canonOf x
  · rw [if_pos h, decide_eq_true h]; rfl
  · rw [if_neg h, decide_eq_false h]; rfl
theorem exp_w {x : Nat} (hx : x < 18446744073709551616) : wrap64 (bits .and .u64 ((canonOf x : Int) / 4503599627370496) 2047) = (expOf x : Int) := by
  have h1 := canon_lt hx
  have h2 : ((canonOf x : Int) / 4503599627370496) = ((canonOf x / 4503599627370496 : Nat) : Int) := by omega
  rw [h2, and_exp _ (by omega), wrap64_in _ (by omega)]
  rfl
theorem frac_w {x : Nat} (hx : x < 18446744073709551616) : bits .and .u64 (canonOf x : Int) 4503599627370495 = (fracOf x : Int) := by
  rw [and_frac _ (canon_lt hx)]; rfl
theorem key_bd (x : Nat) : -9218868437227405313 ≤ keyOf x ∧ keyOf x ≤ 9218868437227405313 := by
  unfold keyOf; split
  · omega
  · split <;> omega
end Go.Proofs.YtilffgmekeeohaaDoor

namespace Go.Proofs.YtilffgmekeeohaaDoor
open Go.RowKit

theorem f64bits (b : Nat) (w : World) : (callFunc 61 #[.float .f64 b]).run Tryd.prog w = .ok (.value (.int .u64 b)) w := by
  rw [run_callFunc_extern Tryd.func61 (by kernel_rfl) (by kernel_rfl) (by kernel_rfl) (e := Extern.MathFloatBits.float64bits) (by kernel_rfl)]; rfl
theorem f64from (b : Nat) (w : World) : (callFunc 46 #[.int .u64 b]).run Tryd.prog w = .ok (.value (.float .f64 b)) w := by
  rw [run_callFunc_extern Tryd.func46 (by kernel_rfl) (by kernel_rfl) (by kernel_rfl) (e := Extern.MathFloatBits.float64frombits) (by kernel_rfl)]; rfl

theorem bcell {W w1 : World} (hb : Below W.heap.size W w1) : (∀ b o, b < W.heap.size → w1.cell? ⟨b, o, none⟩ = W.cell? ⟨b, o, none⟩) ∧ (∀ b o, b < W.heap.size → w1.frozen? ⟨b, o, none⟩ = W.frozen? ⟨b, o, none⟩) :=
  ⟨fun b o h => hb.cell (p := ⟨b, o, none⟩) h, fun b o h => hb.frozen (p := ⟨b, o, none⟩) h⟩

set_option maxHeartbeats 400000 in
theorem f_any (x : Nat) (w : World) :
    Calls Tryd.prog 21 #[.int .u64 x] w fun e w' => e = .returned (.float .f64 x) ∧ w' = w := by
  have h2 := f64from
  go_enter Tryd.func21, Tryd.ntmps21
  go_wp2
  go_ret
  exact ⟨rfl, rfl⟩

def cmpOf (a b : Int) : Int := if a < b then -1 else if b < a then 1 else 0
set_option maxHeartbeats 400000 in
theorem layout64_any (w : World) :
    Calls Tryd.prog 63 #[] w fun e w' => e = .returned (.agg #[.int .i64 52, .int .u64 4503599627370495, .int .u64 2047, .int .u64 9223372036854775808, .int .u64 9218868437227405312, .int .u64 9221120237041090561, .int .i64 1075]) ∧ Below w.heap.size w w' := by
  go_enter Tryd.func63, Tryd.ntmps63
  go_wp2
  exact bodyPost_ret (v := .agg #[.int .i64 52, .int .u64 4503599627370495, .int .u64 2047, .int .u64 9223372036854775808, .int .u64 9218868437227405312, .int .u64 9221120237041090561, .int .i64 1075]) (by simp [results, Tryd.results63, go_sem]) rfl ⟨rfl, (Below.refl _ _).alloc (Nat.le_refl _) _⟩

set_option maxHeartbeats 400000 in
theorem canon_eq (x : Nat) (w : World) (hx : x < 18446744073709551616) :
    Calls Tryd.prog 62 #[.agg #[.int .i64 52, .int .u64 4503599627370495, .int .u64 2047, .int .u64 9223372036854775808, .int .u64 9218868437227405312, .int .u64 9221120237041090561, .int .i64 1075], .int .u64 x] w fun e w' => e = .returned (.int .u64 (canonOf x)) ∧ w' = w.alloc (.cells #[.int .i64 52, .int .u64 4503599627370495, .int .u64 2047, .int .u64 9223372036854775808, .int .u64 9218868437227405312, .int .u64 9221120237041090561, .int .i64 1075] 90) := by
  go_enter Tryd.func62, Tryd.ntmps62
  go_wp2
  · go_ret
    exact ⟨ret_int (canon_w1 hx ‹_›), rfl⟩
  · go_ret
    exact ⟨ret_int (canon_w2 hx ‹_›), rfl⟩
theorem canon_any (x : Nat) (w : World) (hx : x < 18446744073709551616) :
    Calls Tryd.prog 62 #[.agg #[.int .i64 52, .int .u64 4503599627370495, .int .u64 2047, .int .u64 9223372036854775808, .int .u64 9218868437227405312, .int .u64 9221120237041090561, .int .i64 1075], .int .u64 x] w fun e w' => e = .returned (.int .u64 (canonOf x)) ∧ Below w.heap.size w w' :=
  (canon_eq x w hx).mono fun _ _ h => ⟨h.1, by rw [h.2]; exact (Below.refl _ _).alloc (Nat.le_refl _) _⟩
end Go.Proofs.YtilffgmekeeohaaDoor

namespace Go.Proofs.YtilffgmekeeohaaDoor
open Go.RowKit

set_option maxHeartbeats 400000 in
theorem split64_any (x : Nat) (w : World) (hx : x < 18446744073709551616) :
    Calls Tryd.prog 78 #[.agg #[.int .i64 52, .int .u64 4503599627370495, .int .u64 2047, .int .u64 9223372036854775808, .int .u64 9218868437227405312, .int .u64 9221120237041090561, .int .i64 1075], .int .u64 x] w fun e w' => e = .returned (.tuple #[.bool (negOf x), .int .i64 (expOf x), .int .u64 (fracOf x)]) ∧ Below w.heap.size w w' := by
  go_enter Tryd.func78, Tryd.ntmps78
  go_wp2_with fail
  refine (canon_any x _ hx).mono ?_
  rintro e w1 ⟨rfl, hb⟩
  obtain ⟨hc, hf⟩ := bcell hb
  go_wp2_with fail
  go_quiet (fail)
  go_wp2
  go_ret3
  exact ⟨ret_bii (neg_w hx) (exp_w hx) (frac_w hx), bl_drewN _ (bl_alloc hb)⟩

/-- The class that the fields tell. -/
def classN (x : Nat) : Nat := if expOf x = 2047 then (if fracOf x = 0 then 2 else 1) else if expOf x = 0 then (if fracOf x = 0 then 3 else 4) else 5
end Go.Proofs.YtilffgmekeeohaaDoor

namespace Go.Proofs.YtilffgmekeeohaaDoor
open Go.RowKit Go.IntWalk

theorem f64fromI6 (n : Int) (w : World) : (callFunc 46 #[.int .u64 n]).run Tryd.prog w = .ok (.value (.float .f64 n.toNat)) w := by
  rw [run_callFunc_extern Tryd.func46 (by kernel_rfl) (by kernel_rfl) (by kernel_rfl) (e := Extern.MathFloatBits.float64frombits) (by kernel_rfl)]; rfl
set_option maxHeartbeats 400000 in
theorem Inf_pos (w : World) : Calls Tryd.prog 43 #[.int .i64 1] w fun r w' => r = .returned (.float .f64 9218868437227405312) ∧ w' = w := by
  have h64 := f64fromI6
  go_enter Tryd.func43, Tryd.ntmps43
  go_wp2
  go_ret
  exact ⟨rfl, rfl⟩
set_option maxHeartbeats 400000 in
theorem Inf_neg (w : World) : Calls Tryd.prog 43 #[.int .i64 (-1)] w fun r w' => r = .returned (.float .f64 18442240474082181120) ∧ w' = w := by
  have h64 := f64fromI6
  go_enter Tryd.func43, Tryd.ntmps43
  go_wp2
  go_ret
  exact ⟨rfl, rfl⟩
/-- Whether there is an interval with these ends. -/
def fullB (lo hi : Nat) : Bool := (FloatKind.f64.format.order lo hi == some .lt || FloatKind.f64.format.order lo hi == some .eq) && FloatKind.f64.format.order lo 9218868437227405312 == some .lt && FloatKind.f64.format.order hi 18442240474082181120 == some .gt
theorem ret_boolV {a b : Bool} (h : a = b) : Ending.returned (.bool a) = .returned (.bool b) := by rw [h]
set_option maxHeartbeats 1000000 in
theorem areEnds_any (lo hi : Nat) (w : World) : Calls Tryd.prog 29 #[.float .f64 lo, .float .f64 hi] w fun r w' => r = .returned (.bool (fullB lo hi)) ∧ w' = w := by
  have HP := hid Inf_pos
  have HN := hid Inf_neg
  by_cases c1 : FloatKind.f64.format.order lo hi = some .lt ∨ FloatKind.f64.format.order lo hi = some .eq
  · by_cases c2 : FloatKind.f64.format.order lo 9218868437227405312 = some .lt
    · have e : fullB lo hi = (FloatKind.f64.format.order hi 18442240474082181120 == some .gt) := by
        unfold fullB
        rcases c1 with c1 | c1 <;> rw [c1, c2] <;> simp
      rw [e]
      rcases c1 with c1 | c1
      all_goals
        go_enter Tryd.func29, Tryd.ntmps29
        go_wp2_with fail
        refine (HP.out _).mono ?_
        rintro r w1 ⟨rfl, rfl⟩
        go_wp2_with fail
        refine (HN.out _).mono ?_
        rintro r w1 ⟨rfl, rfl⟩
        go_wp2
        go_ret
        exact ⟨rfl, rfl⟩
    · have e : fullB lo hi = false := by
        unfold fullB
        have : (FloatKind.f64.format.order lo 9218868437227405312 == some .lt) = false := by simpa using c2
        rw [this]
        simp
      have d2 : (FloatKind.f64.format.order lo 9218868437227405312 == some .lt) = false := by simpa using c2
      rw [e]
      clear c2
      rcases c1 with c1 | c1
      all_goals
        go_enter Tryd.func29, Tryd.ntmps29
        go_wp2_with fail
        refine (HP.out _).mono ?_
        rintro r w1 ⟨rfl, rfl⟩
        go_wp2
        go_ret
        exact ⟨rfl, rfl⟩
  · have e : fullB lo hi = false := by
      unfold fullB
      have d1 : (FloatKind.f64.format.order lo hi == some .lt) = false := by
        rw [not_or] at c1; simpa using c1.1
      have d2 : (FloatKind.f64.format.order lo hi == some .eq) = false := by
        rw [not_or] at c1; simpa using c1.2
      rw [d1, d2]
      rfl
    rw [e]
    rcases o : FloatKind.f64.format.order lo hi with _ | o1
    · go_enter Tryd.func29, Tryd.ntmps29
      go_wp2
      go_ret
      exact ⟨rfl, rfl⟩
    · cases o1
      · exact absurd (Or.inl o) c1
      · exact absurd (Or.inr o) c1
      · go_enter Tryd.func29, Tryd.ntmps29
        go_wp2
        go_ret
        exact ⟨rfl, rfl⟩
/-- An interval as a value. -/
def IV (lo hi : Nat) : Value := .agg #[.float .f64 lo, .float .f64 hi]
def plusOf (x : Nat) : Nat := if FloatKind.f64.format.order x 0 = some .eq then 0 else x
set_option maxHeartbeats 1000000 in
theorem iplus_any (x : Nat) (w : World) : Calls Tryd.prog 26 #[.float .f64 x] w fun r w' => r = .returned (.float .f64 (plusOf x)) ∧ w' = w := by
  by_cases c : FloatKind.f64.format.order x 0 = some .eq
  · have e : plusOf x = 0 := if_pos c
    rw [e]
    go_enter Tryd.func26, Tryd.ntmps26
    go_wp2
    go_ret
    exact ⟨rfl, rfl⟩
  · have e : plusOf x = x := if_neg c
    rw [e]
    have d : (FloatKind.f64.format.order x 0 == some .eq) = false := by simpa using c
    go_enter Tryd.func26, Tryd.ntmps26
    go_wp2
    go_ret
    exact ⟨rfl, rfl⟩
end Go.Proofs.YtilffgmekeeohaaDoor
