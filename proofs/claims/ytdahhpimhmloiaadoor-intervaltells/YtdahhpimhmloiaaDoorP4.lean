
/- interval's areEnds, Empty, plus: what they do with any numbers. -/
import Derived.Test.YtdahhpimhmloiaaDoorP3
namespace Go.Proofs.YtdahhpimhmloiaaDoor
open Go.RowKit Go.IntWalk

theorem f64fromI6 (n : Int) (w : World) : (callFunc 48 #[.int .u64 n]).run Tryd.prog w = .ok (.value (.float .f64 n.toNat)) w := by
  rw [run_callFunc_extern Tryd.func48 (by kernel_rfl) (by kernel_rfl) (by kernel_rfl) (e := Extern.MathFloatBits.float64frombits) (by kernel_rfl)]; rfl
set_option maxHeartbeats 400000 in
theorem Inf_pos (w : World) : Calls Tryd.prog 45 #[.int .i64 1] w fun r w' => r = .returned (.float .f64 9218868437227405312) ∧ w' = w := by
  have h64 := f64fromI6
  go_enter Tryd.func45, Tryd.ntmps45
  go_wp2
  go_ret
  exact ⟨rfl, rfl⟩
set_option maxHeartbeats 400000 in
theorem Inf_neg (w : World) : Calls Tryd.prog 45 #[.int .i64 (-1)] w fun r w' => r = .returned (.float .f64 18442240474082181120) ∧ w' = w := by
  have h64 := f64fromI6
  go_enter Tryd.func45, Tryd.ntmps45
  go_wp2
  go_ret
  exact ⟨rfl, rfl⟩
/-- Whether there is an interval with these ends. -/
def fullB (lo hi : Nat) : Bool := (FloatKind.f64.format.order lo hi == some .lt || FloatKind.f64.format.order lo hi == some .eq) && FloatKind.f64.format.order lo 9218868437227405312 == some .lt && FloatKind.f64.format.order hi 18442240474082181120 == some .gt
theorem ret_boolV {a b : Bool} (h : a = b) : Ending.returned (.bool a) = .returned (.bool b) := by rw [h]
set_option maxHeartbeats 1000000 in
theorem areEnds_any (lo hi : Nat) (w : World) : Calls Tryd.prog 42 #[.float .f64 lo, .float .f64 hi] w fun r w' => r = .returned (.bool (fullB lo hi)) ∧ w' = w := by
  have HP := hid Inf_pos
  have HN := hid Inf_neg
  by_cases c1 : FloatKind.f64.format.order lo hi = some .lt ∨ FloatKind.f64.format.order lo hi = some .eq
  · by_cases c2 : FloatKind.f64.format.order lo 9218868437227405312 = some .lt
    · have e : fullB lo hi = (FloatKind.f64.format.order hi 18442240474082181120 == some .gt) := by
        unfold fullB
        rcases c1 with c1 | c1 <;> rw [c1, c2] <;> simp
      rw [e]
      rcases c1 with c1 | c1
      all_goals
        go_enter Tryd.func42, Tryd.ntmps42
        go_wp2_with fail
        refine (HP.out _).mono ?_
        rintro r w1 ⟨rfl, rfl⟩
        go_wp2_with fail
        refine (HN.out _).mono ?_
        rintro r w1 ⟨rfl, rfl⟩
        go_wp2
        go_ret
        exact ⟨rfl, rfl⟩
    · have e : fullB lo hi = false := by
        unfold fullB
        have : (FloatKind.f64.format.order lo 9218868437227405312 == some .lt) = false := by simpa using c2
        rw [this]
        simp
      have d2 : (FloatKind.f64.format.order lo 9218868437227405312 == some .lt) = false := by simpa using c2
      rw [e]
      clear c2
      rcases c1 with c1 | c1
      all_goals
        go_enter Tryd.func42, Tryd.ntmps42
        go_wp2_with fail
        refine (HP.out _).mono ?_
        rintro r w1 ⟨rfl, rfl⟩
        go_wp2
        go_ret
        exact ⟨rfl, rfl⟩
  · have e : fullB lo hi = false := by
      unfold fullB
      have d1 : (FloatKind.f64.format.order lo hi == some .lt) = false := by
        rw [not_or] at c1; simpa using c1.1
      have d2 : (FloatKind.f64.format.order lo hi == some .eq) = false := by
        rw [not_or] at c1; simpa using c1.2
      rw [d1, d2]
      rfl
    rw [e]
    rcases o : FloatKind.f64.format.order lo hi with _ | o1
    · go_enter Tryd.func42, Tryd.ntmps42
      go_wp2
      go_ret
      exact ⟨rfl, rfl⟩
    · cases o1
      · exact absurd (Or.inl o) c1
      · exact absurd (Or.inr o) c1
      · go_enter Tryd.func42, Tryd.ntmps42
        go_wp2
        go_ret
        exact ⟨rfl, rfl⟩
/-- An interval as a value. -/
def IV (lo hi : Nat) : Value := .agg #[.float .f64 lo, .float .f64 hi]
def plusOf (x : Nat) : Nat := if FloatKind.f64.format.order x 0 = some .eq then 0 else x
set_option maxHeartbeats 1000000 in
theorem plus_any (x : Nat) (w : World) : Calls Tryd.prog 59 #[.float .f64 x] w fun r w' => r = .returned (.float .f64 (plusOf x)) ∧ w' = w := by
  by_cases c : FloatKind.f64.format.order x 0 = some .eq
  · have e : plusOf x = 0 := if_pos c
    rw [e]
    go_enter Tryd.func59, Tryd.ntmps59
    go_wp2
    go_ret
    exact ⟨rfl, rfl⟩
  · have e : plusOf x = x := if_neg c
    rw [e]
    have d : (FloatKind.f64.format.order x 0 == some .eq) = false := by simpa using c
    go_enter Tryd.func59, Tryd.ntmps59
    go_wp2
    go_ret
    exact ⟨rfl, rfl⟩
end Go.Proofs.YtdahhpimhmloiaaDoor
