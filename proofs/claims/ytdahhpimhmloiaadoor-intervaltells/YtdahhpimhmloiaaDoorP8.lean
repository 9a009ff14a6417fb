
/- Ends as interval keeps them: no NaN, no -0: alike in value, alike in bits; the lesser and the greater of two. -/
import Derived.Test.YtdahhpimhmloiaaDoorP6
import Derived.Test.YtdahhpimhmloiaaDoorP7
namespace Go.Proofs.YtdahhpimhmloiaaDoor
open Go.RowKit Go.IntWalk

def Cn (x : Nat) : Prop := x < 18446744073709551616 ∧ x % 9223372036854775808 ≤ 9218868437227405312 ∧ x ≠ 9223372036854775808
theorem nv_inj {r s : Nat} (h : nv r = nv s) : r = s := by
  rcases Nat.lt_trichotomy r s with c | c | c
  · have := nv_lt c; omega
  · exact c
  · have := nv_lt c; omega
theorem nv_0 : nv 0 = 0 := by decide +kernel
theorem cn_inj {x y : Nat} (hx : Cn x) (hy : Cn y) (h : sv x = sv y) : x = y := by
  obtain ⟨x1, x2, x3⟩ := hx
  obtain ⟨y1, y2, y3⟩ := hy
  unfold sv at h
  have h0 := nv_0
  have key : ∀ r, nv r = 0 → r = 0 := fun r hr => nv_inj (hr.trans h0.symm)
  split at h <;> split at h
  · have := nv_inj (Int.ofNat.inj (Int.neg_inj.1 h)); omega
  · have a1 := key _ (by omega : nv (x % 9223372036854775808) = 0); omega
  · have a1 := key _ (by omega : nv (y % 9223372036854775808) = 0); omega
  · have := nv_inj (Int.ofNat.inj h); omega
theorem cn_order {x y : Nat} (hx : Cn x) (hy : Cn y) : FloatKind.f64.format.order x y = some (compare (sv x) (sv y)) := order_eq x y hx.1 hy.1 hx.2.1 hy.2.1
def mn (x y : Nat) : Nat := if sv y < sv x then y else x
def mx (x y : Nat) : Nat := if sv x < sv y then y else x
theorem run_mn {x y : Nat} (hx : Cn x) (hy : Cn y) (ts : Array TypeId) (t : TypeId) (w : World) : (Builtin.min_ ts t #[.float .f64 x, .float .f64 y]).run Tryd.prog w = .ok (.float .f64 (mn x y)) w := by
  unfold mn
  simp only [Builtin.min_]
  rcases Int.lt_trichotomy (sv x) (sv y) with c | c | c
  · rw [if_neg (by omega)]
    simp [Builtin.min2, cn_order hx hy, cmp_lt c]
  · rw [if_neg (by omega)]
    simp [Builtin.min2, cn_order hx hy, cmp_eq c]
    rw [cn_inj hx hy c]
    simp
  · rw [if_pos c]
    simp [Builtin.min2, cn_order hx hy, cmp_gt c]
theorem run_mx {x y : Nat} (hx : Cn x) (hy : Cn y) (ts : Array TypeId) (t : TypeId) (w : World) : (Builtin.max_ ts t #[.float .f64 x, .float .f64 y]).run Tryd.prog w = .ok (.float .f64 (mx x y)) w := by
  unfold mx
  simp only [Builtin.max_]
  rcases Int.lt_trichotomy (sv x) (sv y) with c | c | c
  · rw [if_pos c]
    simp [Builtin.max2, cn_order hx hy, cmp_lt c]
  · rw [if_neg (by omega)]
    simp [Builtin.max2, cn_order hx hy, cmp_eq c]
    rw [cn_inj hx hy c]
    simp
  · rw [if_neg (by omega)]
    simp [Builtin.max2, cn_order hx hy, cmp_gt c]
theorem order_some {x y : Nat} (h : FloatKind.f64.format.order x y ≠ none) : x % 9223372036854775808 ≤ 9218868437227405312 := by
  by_cases c : 9218868437227405312 < x % 9223372036854775808
  · exact absurd (order_nan_l x y c) h
  · omega
theorem cn_plus {x : Nat} (hx : x < 18446744073709551616) (h : x % 9223372036854775808 ≤ 9218868437227405312) : Cn (plusOf x) := by
  unfold plusOf
  split
  · exact ⟨by decide, by decide, by decide⟩
  · rename_i c
    refine ⟨hx, h, ?_⟩
    rintro rfl
    exact c (by decide +kernel)
theorem full_nums {lo hi : Nat} (h : fullB lo hi = true) : lo % 9223372036854775808 ≤ 9218868437227405312 ∧ hi % 9223372036854775808 ≤ 9218868437227405312 := by
  unfold fullB at h
  simp at h
  obtain ⟨⟨_, h2⟩, h3⟩ := h
  exact ⟨order_some (by rw [h2]; simp), order_some (by rw [h3]; simp)⟩
theorem cn_bt {lo hi : Nat} (h1 : lo < 18446744073709551616) (h2 : hi < 18446744073709551616) : Cn (btLo lo hi) ∧ Cn (btHi lo hi) := by
  unfold btLo btHi
  split
  · rename_i c
    obtain ⟨a, b⟩ := full_nums c
    exact ⟨cn_plus h1 a, cn_plus h2 b⟩
  · exact ⟨⟨by decide, by decide, by decide⟩, ⟨by decide, by decide, by decide⟩⟩
theorem cn_mn {x y : Nat} (hx : Cn x) (hy : Cn y) : Cn (mn x y) ∧ Cn (mx x y) := by
  unfold mn mx
  constructor <;> split <;> assumption
end Go.Proofs.YtdahhpimhmloiaaDoor
