/- What the law AnatomyNear answers. -/
import Derived.Test.YtcfbahaclmehaabDoorAwake
import Derived.Test.YtcfbahaclmehaabDoorPlaces
import Derived.Test.YtcfbahaclmehaabDoorNeigh
import Derived.Test.YtcfbahaclmehaabDoorNumsU
namespace Go.Proofs.YtcfbahaclmehaabDoor
open Go.RowKit Go.IntWalk

theorem f64neg (b : Nat) : Op.unary .neg (.float .f64 b) = pure (.float .f64 (b ^^^ 9223372036854775808)) := rfl

theorem read_pos (v : Nat) (h0 : 0 < v) (hv : v < 9218868437227405312) : (FloatKind.f64.decode v).isZero = false ∧ (FloatKind.f64.decode v == .infinity true) = false ∧ (FloatKind.f64.decode v).isNaN = false := by
  obtain ⟨m, p, e, hm⟩ := read_fin v (by omega) (by omega)
  have hn := nv_lt (r := 0) (s := v % 9223372036854775808) (by omega)
  have hm0 : m ≠ 0 := by intro hz; rw [hz, Nat.zero_mul] at hm; omega
  unfold FloatKind.decode
  rw [e]
  refine ⟨?_, rfl, rfl⟩
  cases m with
  | zero => exact absurd rfl hm0
  | succ m => rfl
theorem read_any (v : Nat) (hv : v < 9218868437227405312) : (FloatKind.f64.decode v == .infinity true) = false ∧ (FloatKind.f64.decode v).isNaN = false := by
  obtain ⟨m, p, e, hm⟩ := read_fin v (by omega) (by omega)
  unfold FloatKind.decode
  rw [e]
  exact ⟨rfl, rfl⟩
theorem pick_eq (x y : Nat) : Extern.MathDim.pick "math.archMin" true .lt #[.float .f64 x, .float .f64 y] =
    pure (.float .f64 (if (FloatKind.f64.decode x == .infinity true || FloatKind.f64.decode y == .infinity true) = true then FloatKind.f64.encode (.infinity true)
      else if ((FloatKind.f64.decode x).isNaN || (FloatKind.f64.decode y).isNaN) = true then 0x7FF8000000000001
      else if ((FloatKind.f64.decode x).isZero && (FloatKind.f64.decode y).isZero) = true then (if ((FloatKind.f64.decode x).neg == true) = true then x else y)
      else if ((FloatKind.f64.decode x).order (FloatKind.f64.decode y) == some .lt) = true then x else y)) := rfl
theorem pick_lo (u v : Nat) (h : u < v) (hv : v < 9218868437227405312) (w : World) :
    (Extern.MathDim.pick "math.archMin" true .lt #[.float .f64 u, .float .f64 v]).run Tryd.prog w = .ok (.float .f64 u) w ∧ (Extern.MathDim.pick "math.archMin" true .lt #[.float .f64 v, .float .f64 u]).run Tryd.prog w = .ok (.float .f64 u) w := by
  obtain ⟨v1, v2, v3⟩ := read_pos v (by omega) hv
  obtain ⟨u2, u3⟩ := read_any u (by omega)
  have hs : sv u < sv v := by rw [sv_pos u (by omega), sv_pos v (by omega)]; have := nv_lt h; omega
  have o1 := order_lt u v (by omega) (by omega) (by omega) (by omega)
  have o2 := order_lt v u (by omega) (by omega) (by omega) (by omega)
  rw [decide_eq_true hs] at o1
  rw [decide_eq_false (by omega)] at o2
  have o1' : ((FloatKind.f64.decode u).order (FloatKind.f64.decode v) == some .lt) = true := o1
  have o2' : ((FloatKind.f64.decode v).order (FloatKind.f64.decode u) == some .lt) = false := o2
  rw [pick_eq, pick_eq]
  simp only [v1, v2, v3, u2, u3, o1', o2', Bool.or_self, Bool.and_false, Bool.false_and, if_true, Bool.false_eq_true, if_false]
  exact ⟨rfl, rfl⟩
theorem f64min (u v : Nat) (h : u < v) (hv : v < 9218868437227405312) : (∀ w, (callFunc 31 #[.float .f64 u, .float .f64 v]).run Tryd.prog w = .ok (.value (.float .f64 u)) w) ∧ (∀ w, (callFunc 31 #[.float .f64 v, .float .f64 u]).run Tryd.prog w = .ok (.value (.float .f64 u)) w) := by
  constructor
  · intro w
    rw [run_callFunc_extern Tryd.func31 (by kernel_rfl) (by kernel_rfl) (by kernel_rfl) (e := Extern.MathDim.pick "math.archMin" true .lt) (by kernel_rfl), (pick_lo u v h hv w).1]; rfl
  · intro w
    rw [run_callFunc_extern Tryd.func31 (by kernel_rfl) (by kernel_rfl) (by kernel_rfl) (e := Extern.MathDim.pick "math.archMin" true .lt) (by kernel_rfl), (pick_lo u v h hv w).2]; rfl

set_option maxHeartbeats 400000 in
theorem min_lo (u v : Nat) (w : World) (h : u < v) (hv : v < 9218868437227405312) :
    Calls Tryd.prog 13 #[.float .f64 u, .float .f64 v] w fun r w' => r = .returned (.float .f64 u) ∧ w' = w := by
  have h1 := (f64min u v h hv).1
  clear h hv
  go_enter Tryd.func13, Tryd.ntmps13
  go_wp2
  go_ret
  exact ⟨rfl, rfl⟩
set_option maxHeartbeats 400000 in
theorem min_hi (u v : Nat) (w : World) (h : u < v) (hv : v < 9218868437227405312) :
    Calls Tryd.prog 13 #[.float .f64 v, .float .f64 u] w fun r w' => r = .returned (.float .f64 u) ∧ w' = w := by
  have h1 := (f64min u v h hv).2
  clear h hv
  go_enter Tryd.func13, Tryd.ntmps13
  go_wp2
  go_ret
  exact ⟨rfl, rfl⟩

set_option maxHeartbeats 400000 in
theorem abs_any (x : Nat) (w : World) (hx : x < 18446744073709551616) :
    Calls Tryd.prog 14 #[.float .f64 x] w fun r w' => r = .returned (.float .f64 (x % 9223372036854775808)) ∧ w' = w := by
  have h1 := f64bits
  have h2 := f64fromI
  go_enter Tryd.func14, Tryd.ntmps14
  go_wp2
  go_ret
  exact ⟨ret_f (by rw [andNot_sign x hx]; rfl), rfl⟩

set_option maxHeartbeats 400000 in
theorem isinf_pos (x : Nat) (w : World) :
    Calls Tryd.prog 9 #[.float .f64 x, .int .i64 1] w fun r w' => r = .returned (.bool (FloatKind.f64.format.order x 9218868437227405311 == some .gt)) ∧ w' = w := by
  go_enter Tryd.func9, Tryd.ntmps9
  go_wp2
  go_ret
  exact ⟨rfl, rfl⟩
set_option maxHeartbeats 400000 in
theorem isinf_neg (x : Nat) (w : World) :
    Calls Tryd.prog 9 #[.float .f64 x, .int .i64 (-1)] w fun r w' => r = .returned (.bool (FloatKind.f64.format.order (x ^^^ 9223372036854775808) 9218868437227405311 == some .gt)) ∧ w' = w := by
  have h1 := f64neg
  go_enter Tryd.func9, Tryd.ntmps9
  go_wp2
  go_ret
  exact ⟨rfl, rfl⟩
end Go.Proofs.YtcfbahaclmehaabDoor
