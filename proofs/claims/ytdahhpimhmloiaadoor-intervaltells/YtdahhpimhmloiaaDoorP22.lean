
/- x - x; Point, Is, Has: interval's and the document's. -/
import Derived.Test.YtdahhpimhmloiaaDoorP21
namespace Go.Proofs.YtdahhpimhmloiaaDoor
open Go.RowKit Go.IntWalk

theorem ret6_fl {a b : Nat} (h : a = b) : Ending.returned (.float .f64 a) = .returned (.float .f64 b) := by rw [h]
set_option maxHeartbeats 400000 in
theorem abs6_fl (x : Nat) (w : World) (hx : x < 18446744073709551616) : Calls Tryd.prog 58 #[.float .f64 x] w fun r w' => r = .returned (.float .f64 (x % 9223372036854775808)) ∧ w' = w := by
  have h1 := f64bits
  have h2 := f64fromI6
  have H := hid (andNot_sign x hx)
  clear hx
  go_enter Tryd.func58, Tryd.ntmps58
  go_wp2
  go_ret
  exact ⟨ret6_fl (by rw [H.out]; rfl), rfl⟩
theorem sv6_mag (r : Nat) (h : r < 9223372036854775808) : sv r = (nv r : Int) := by
  unfold sv
  rw [if_neg (by omega), Nat.mod_eq_of_lt h]
theorem order6_mag (r c : Nat) (hr : r ≤ 9218868437227405312) (hc : c ≤ 9218868437227405312) : FloatKind.f64.format.order r c = some (if r < c then .lt else if c < r then .gt else .eq) := by
  rw [order_eq r c (by omega) (by omega) (by omega) (by omega), sv6_mag r (by omega), sv6_mag c (by omega)]
  congr 1
  by_cases h1 : r < c
  · rw [if_pos h1]
    exact cmp_lt (by have := nv_lt h1; omega)
  · rw [if_neg h1]
    by_cases h2 : c < r
    · rw [if_pos h2]
      exact cmp_gt (by have := nv_lt h2; omega)
    · rw [if_neg h2]
      have : r = c := by omega
      rw [this]
      exact cmp_eq rfl
theorem order6_max (r : Nat) : r < 9223372036854775808 → (FloatKind.f64.format.order r 9218868437227405311 == some .gt) = decide (r = 9218868437227405312) := by
  intro hr
  by_cases h : 9218868437227405312 < r
  · rw [order_nan_l r _ (by rw [Nat.mod_eq_of_lt hr]; exact h), decide_eq_false (by omega)]; rfl
  · rw [order6_mag r _ (by omega) (by decide)]
    by_cases c : r = 9218868437227405312
    · rw [if_neg (by omega), if_pos (by omega), decide_eq_true c]; rfl
    · rw [decide_eq_false c]
      by_cases d : r < 9218868437227405311
      · rw [if_pos d]; rfl
      · rw [if_neg d, if_neg (by omega)]; rfl
set_option maxHeartbeats 400000 in
theorem isinf6_fl (x : Nat) (w : World) (hx : x < 18446744073709551616) : Calls Tryd.prog 39 #[.float .f64 x, .int .i64 0] w fun r w' => r = .returned (.bool (decide (x % 9223372036854775808 = 9218868437227405312))) ∧ w' = w := by
  have H := hid (order6_max (x % 9223372036854775808) (by omega))
  have HA := hid (fun (W : World) => abs6_fl x W hx)
  obtain ⟨r, hr⟩ : ∃ r, Hid (x % 9223372036854775808 = r) := ⟨_, rfl⟩
  rw [hr.out] at H HA ⊢
  clear hx
  go_enter Tryd.func39, Tryd.ntmps39
  go_wp2_with fail
  refine (HA.out _).mono ?_
  rintro z w1 ⟨rfl, rfl⟩
  go_wp2
  go_ret
  exact ⟨ret_bool H.out, rfl⟩
theorem nan6_form (a b : Nat) (ha : a < 2) (hb : b < 2 ^ 52 - 1) : a * 2 ^ 63 + 0x7ff0000000000000 + 1 + b < 18446744073709551616 ∧ 9218868437227405312 < (a * 2 ^ 63 + 0x7ff0000000000000 + 1 + b) % 9223372036854775808 := by
  obtain h | h : a = 0 ∨ a = 1 := by omega
  all_goals (subst h; omega)
theorem nan6_arith (op : BinOp) (x y : Nat) (hop : op = .add ∨ op = .sub ∨ op = .mul ∨ op = .quo) (h : floatBits op .f64 x y = none) : ∃ f : World → Nat, (∀ w, f w < 18446744073709551616 ∧ 9218868437227405312 < f w % 9223372036854775808) ∧ ∀ (t : TypeId) (w : World), (binOp op t (.float .f64 x) (.float .f64 y)).run Tryd.prog w = .ok (.float .f64 (f w)) w.drew := by
  refine ⟨fun w => (Question.nanBits .f64 x y).cut (w.tape w.drawn (Question.nanBits .f64 x y)), fun w => ?_, fun t w => ?_⟩
  · show (_ % 2) * 2 ^ 63 + 0x7ff0000000000000 + 1 + (_ / 2) % (2 ^ 52 - 1) < 18446744073709551616 ∧ 9218868437227405312 < ((_ % 2) * 2 ^ 63 + 0x7ff0000000000000 + 1 + (_ / 2) % (2 ^ 52 - 1)) % 9223372036854775808
    exact nan6_form _ _ (Nat.mod_lt _ (by decide)) (Nat.mod_lt _ (by decide))
  · unfold floatBits at h
    rcases hop with rfl | rfl | rfl | rfl <;> simp only at h <;> simp [binOp, Op.floatArith, h, Question.forced]
/-- A finite number less itself is +0. -/
theorem sub_self_fin {x : Nat} (hx : x < 18446744073709551616) (fx : x % 9223372036854775808 < 9218868437227405312) : FloatKind.f64.format.sub x x = some 0 := by
  obtain ⟨m, p, ex, vx⟩ := read_fin x hx fx
  unfold Ieee.Format.sub
  rw [ex]
  have hA := sv_form x m p vx
  have hB : -sv x = if (!decide (9223372036854775808 ≤ x)) then -((m * 2 ^ p : Nat) : Int) else ((m * 2 ^ p : Nat) : Int) := by
    rw [sv_form x m p vx]
    by_cases c : 9223372036854775808 ≤ x <;> simp [c]
  obtain ⟨mag, b, e, hv⟩ := sum_val _ _ m m p p (sv x) (-sv x) hA hB
  show ((Ieee.Datum.number _ m _).sum (.number (!decide (9223372036854775808 ≤ x)) m _)).map _ = _
  rw [e]
  have c1 : sv x + -sv x = 0 := by omega
  rw [if_pos c1]
  have hm0 : mag = 0 := by
    rw [c1] at hv
    rcases Nat.mul_eq_zero.1 (show mag * 2 ^ b = 0 from hv) with h | h
    · exact h
    · have := Nat.two_pow_pos b; omega
  show some (FloatKind.f64.format.nearest _ mag ((b : Int) - 1074)) = some 0
  rw [hm0, nearest_zero]
  have : (decide (9223372036854775808 ≤ x) && !decide (9223372036854775808 ≤ x)) = false := by cases decide (9223372036854775808 ≤ x) <;> rfl
  rw [this, word_false]
theorem sub_self_bad {x : Nat} (hx : x < 18446744073709551616) (fx : ¬ x % 9223372036854775808 < 9218868437227405312) : FloatKind.f64.format.sub x x = none := by
  by_cases c : 9218868437227405312 < x % 9223372036854775808
  · unfold Ieee.Format.sub
    obtain ⟨s, t, e⟩ := read_nan x c
    rw [e]
    rfl
  · have : x = 9218868437227405312 ∨ x = 18442240474082181120 := by omega
    rcases this with rfl | rfl <;> decide +kernel
/-- Whether a number is finite. -/
def finB (x : Nat) : Bool := decide (x % 9223372036854775808 < 9218868437227405312)
theorem full_self {x : Nat} (hx : x < 18446744073709551616) : fullB x x = finB x := by
  unfold finB
  by_cases c : 9218868437227405312 < x % 9223372036854775808
  · rw [decide_eq_false (by omega)]
    unfold fullB
    rw [order_nan_l x x c]; rfl
  · have hn : x % 9223372036854775808 ≤ 9218868437227405312 := by omega
    have e : leB x x = true := by
      unfold leB
      rw [order_eq x x hx hx hn hn, cmp_eq rfl]; rfl
    unfold leB at e
    unfold fullB
    rw [e, order_eq x _ hx (by decide) hn (by decide), order_eq x _ hx (by decide) hn (by decide), pi_neg]
    obtain ⟨_, _, b3, b4⟩ := sv_beyond hn
    have hp := pi_pos
    show (true && (some (compare (sv x) PI) == some .lt) && _) = _
    have hv := pi_nv
    by_cases d : x % 9223372036854775808 < 9218868437227405312
    · rw [decide_eq_true d]
      have := nv_lt d
      have k : -PI < sv x ∧ sv x < PI := by
        rw [hv]; unfold sv; split <;> omega
      rw [cmp_lt k.2, cmp_gt k.1]; rfl
    · rw [decide_eq_false d]
      have : sv x = PI ∨ sv x = -PI := by
        have e2 : x % 9223372036854775808 = 9218868437227405312 := by omega
        rw [hv]; unfold sv; rw [e2]
        split
        · right; rfl
        · left; rfl
      rcases this with k | k
      · rw [cmp_eq k]; rfl
      · rw [cmp_eq k]
        cases (some (compare (sv x) PI) == some Ordering.lt) <;> rfl
theorem newV_fin {x : Nat} (hx : x < 18446744073709551616) (h : finB x = true) : newV x x = .tuple #[IV (plusOf x) (plusOf x), .int .i64 0] := if_pos (by rw [full_self hx, h])
theorem newV_bad {x : Nat} (hx : x < 18446744073709551616) (h : finB x = false) : newV x x = .tuple #[IV 0 0, .int .i64 60] := if_neg (by rw [full_self hx, h]; decide)
set_option maxHeartbeats 1000000 in
theorem rPoint_any (x : Nat) (w : World) (hx : x < 18446744073709551616) : Calls Tryd.prog 19 #[.float .f64 x] w fun r w' => r = .returned (newV x x) ∧ Below w.heap.size w w' := by
  have HB0 : Hid (Below w.heap.size w (w.alloc (IBox 0 0))) := (Below.refl _ _).alloc (Nat.le_refl _) _
  have HR := inew w (IBox 0 0)
  have HRB := hid (fun (W : World) (h : Below (w.alloc (IBox 0 0)).heap.size (w.alloc (IBox 0 0)) W) => ikeep h)
  obtain ⟨W0, hW0⟩ : ∃ V, Hid (w.alloc (IBox 0 0) = V) := ⟨_, rfl⟩
  rw [hW0.out] at HB0 HR HRB
  unfold IBox at hW0
  have hW0' := hW0.out
  have hst := fstore
  by_cases c : x % 9223372036854775808 < 9218868437227405312
  · have e0 := newV_fin hx (decide_eq_true c)
    have HBT := hid (fun (W : World) => rmade_any x x W ⟨hx, by omega⟩ ⟨hx, by omega⟩)
    have hsb := f6_sub (sub_self_fin hx c)
    have h00 : FloatKind.f64.format.order 0 0 = some .eq := by decide +kernel
    rw [e0]
    obtain ⟨p, hp⟩ : ∃ p, Hid (plusOf x = p) := ⟨_, rfl⟩
    rw [hp.out] at HBT ⊢
    clear HR c e0 hx
    unfold IV at HBT
    go_enter Tryd.func19, Tryd.ntmps19
    go_wp2_with fail
    refine (HBT.out _).mono ?_
    rintro r w2 ⟨rfl, hb2⟩
    have HR := HRB.out _ hb2
    have HB2 := hid (HB0.out.trans (hb2.mono HB0.out.size))
    obtain ⟨z0, z1, z2⟩ := icells_of (show w2.heap[w.heap.size]? = some (.cells #[.float .f64 0, .float .f64 0] 28) from HR)
    clear HR hb2
    go_wp2
    exact bodyPost_ret (v := .tuple #[IV p p, .int .i64 0]) (by simp [results, Tryd.results19, go_sem, z0, z1, IV]) rfl ⟨rfl, Below.setCell (Below.setCell HB2.out (Nat.le_refl _) _) (Nat.le_refl _) _⟩
  · have e0 := newV_bad hx (decide_eq_false c)
    obtain ⟨f, hf, ha⟩ := nan6_arith .sub x x (by simp) (sub_self_bad hx c)
    have ho : ∀ v, FloatKind.f64.format.order (f v) 0 = none := fun v => order_nan_l _ _ (hf v).2
    rw [e0]
    obtain ⟨z0, z1, z2⟩ := icells_of (show W0.heap[w.heap.size]? = some (.cells #[.float .f64 0, .float .f64 0] 28) from HR)
    clear HR c e0 hx hf
    go_enter Tryd.func19, Tryd.ntmps19
    go_wp2
    exact bodyPost_ret (v := .tuple #[IV 0 0, .int .i64 60]) (by simp [results, Tryd.results19, go_sem, z0, z1, IV]) rfl ⟨rfl, Below.setCell (Below.setCell HB0.out.drew (Nat.le_refl _) _) (Nat.le_refl _) _⟩
end Go.Proofs.YtdahhpimhmloiaaDoor
