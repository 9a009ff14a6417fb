
/- The document's Empty, All, made, New, Point, Is (binnacleref06); interval's Point. -/
import Derived.Test.YtilffgmekeeohaaDoorP8
import Derived.Test.YtilffgmekeeohaaDoorP1
namespace Go.Proofs.YtilffgmekeeohaaDoor
open Go.RowKit Go.IntWalk

theorem f6_add {x y z : Nat} (h : FloatKind.f64.format.add x y = some z) (w : World) : (binOp .add 26 (.float .f64 x) (.float .f64 y)).run Tryd.prog w = .ok (.float .f64 z) w := run_float_arith w .add _ .f64 x y z h
theorem f6_sub {x y z : Nat} (h : FloatKind.f64.format.sub x y = some z) (w : World) : (binOp .sub 26 (.float .f64 x) (.float .f64 y)).run Tryd.prog w = .ok (.float .f64 z) w := run_float_arith w .sub _ .f64 x y z h
/-- Ends that are no NaN. -/
def Nn (x : Nat) : Prop := x < 18446744073709551616 ∧ x % 9223372036854775808 ≤ 9218868437227405312
theorem full_nn {lo hi : Nat} (h1 : lo < 18446744073709551616) (h2 : hi < 18446744073709551616) (h : fullB lo hi = true) : Nn lo ∧ Nn hi := ⟨⟨h1, (full_nums h).1⟩, ⟨h2, (full_nums h).2⟩⟩
end Go.Proofs.YtilffgmekeeohaaDoor

namespace Go.Proofs.YtilffgmekeeohaaDoor
open Go.RowKit Go.IntWalk

theorem ret6_fl {a b : Nat} (h : a = b) : Ending.returned (.float .f64 a) = .returned (.float .f64 b) := by rw [h]
set_option maxHeartbeats 400000 in
theorem abs6_fl (x : Nat) (w : World) (hx : x < 18446744073709551616) : Calls Tryd.prog 45 #[.float .f64 x] w fun r w' => r = .returned (.float .f64 (x % 9223372036854775808)) ∧ w' = w := by
  have h1 := f64bits
  have h2 := f64fromI6
  have H := hid (andNot_sign x hx)
  clear hx
  go_enter Tryd.func45, Tryd.ntmps45
  go_wp2
  go_ret
  exact ⟨ret6_fl (by rw [H.out]; rfl), rfl⟩
theorem sv6_mag (r : Nat) (h : r < 9223372036854775808) : sv r = (nv r : Int) := by
  unfold sv
  rw [if_neg (by omega), Nat.mod_eq_of_lt h]
theorem order6_mag (r c : Nat) (hr : r ≤ 9218868437227405312) (hc : c ≤ 9218868437227405312) : FloatKind.f64.format.order r c = some (if r < c then .lt else if c < r then .gt else .eq) := by
  rw [order_eq r c (by omega) (by omega) (by omega) (by omega), sv6_mag r (by omega), sv6_mag c (by omega)]
  congr 1
  by_cases h1 : r < c
  · rw [if_pos h1]
    exact cmp_lt (by have := nv_lt h1; omega)
  · rw [if_neg h1]
    by_cases h2 : c < r
    · rw [if_pos h2]
      exact cmp_gt (by have := nv_lt h2; omega)
    · rw [if_neg h2]
      have : r = c := by omega
      rw [this]
      exact cmp_eq rfl
theorem order6_max (r : Nat) : r < 9223372036854775808 → (FloatKind.f64.format.order r 9218868437227405311 == some .gt) = decide (r = 9218868437227405312) := by
  intro hr
  by_cases h : 9218868437227405312 < r
  · rw [order_nan_l r _ (by rw [Nat.mod_eq_of_lt hr]; exact h), decide_eq_false (by omega)]; rfl
  · rw [order6_mag r _ (by omega) (by decide)]
    by_cases c : r = 9218868437227405312
    · rw [if_neg (by omega), if_pos (by omega), decide_eq_true c]; rfl
    · rw [decide_eq_false c]
      by_cases d : r < 9218868437227405311
      · rw [if_pos d]; rfl
      · rw [if_neg d, if_neg (by omega)]; rfl
set_option maxHeartbeats 400000 in
theorem isinf6_fl (x : Nat) (w : World) (hx : x < 18446744073709551616) : Calls Tryd.prog 20 #[.float .f64 x, .int .i64 0] w fun r w' => r = .returned (.bool (decide (x % 9223372036854775808 = 9218868437227405312))) ∧ w' = w := by
  have H := hid (order6_max (x % 9223372036854775808) (by omega))
  have HA := hid (fun (W : World) => abs6_fl x W hx)
  obtain ⟨r, hr⟩ : ∃ r, Hid (x % 9223372036854775808 = r) := ⟨_, rfl⟩
  rw [hr.out] at H HA ⊢
  clear hx
  go_enter Tryd.func20, Tryd.ntmps20
  go_wp2_with fail
  refine (HA.out _).mono ?_
  rintro z w1 ⟨rfl, rfl⟩
  go_wp2
  go_ret
  exact ⟨ret_bool H.out, rfl⟩
theorem nan6_form (a b : Nat) (ha : a < 2) (hb : b < 2 ^ 52 - 1) : a * 2 ^ 63 + 0x7ff0000000000000 + 1 + b < 18446744073709551616 ∧ 9218868437227405312 < (a * 2 ^ 63 + 0x7ff0000000000000 + 1 + b) % 9223372036854775808 := by
  obtain h | h : a = 0 ∨ a = 1 := by omega
  all_goals (subst h; omega)
theorem nan6_arith (op : BinOp) (x y : Nat) (hop : op = .add ∨ op = .sub ∨ op = .mul ∨ op = .quo) (h : floatBits op .f64 x y = none) : ∃ f : World → Nat, (∀ w, f w < 18446744073709551616 ∧ 9218868437227405312 < f w % 9223372036854775808) ∧ ∀ (t : TypeId) (w : World), (binOp op t (.float .f64 x) (.float .f64 y)).run Tryd.prog w = .ok (.float .f64 (f w)) w.drew := by
  refine ⟨fun w => (Question.nanBits .f64 x y).cut (w.tape w.drawn (Question.nanBits .f64 x y)), fun w => ?_, fun t w => ?_⟩
  · show (_ % 2) * 2 ^ 63 + 0x7ff0000000000000 + 1 + (_ / 2) % (2 ^ 52 - 1) < 18446744073709551616 ∧ 9218868437227405312 < ((_ % 2) * 2 ^ 63 + 0x7ff0000000000000 + 1 + (_ / 2) % (2 ^ 52 - 1)) % 9223372036854775808
    exact nan6_form _ _ (Nat.mod_lt _ (by decide)) (Nat.mod_lt _ (by decide))
  · unfold floatBits at h
    rcases hop with rfl | rfl | rfl | rfl <;> simp only at h <;> simp [binOp, Op.floatArith, h, Question.forced]
/-- A finite number less itself is +0. -/
theorem sub_self_fin {x : Nat} (hx : x < 18446744073709551616) (fx : x % 9223372036854775808 < 9218868437227405312) : FloatKind.f64.format.sub x x = some 0 := by
  obtain ⟨m, p, ex, vx⟩ := read_fin x hx fx
  unfold Ieee.Format.sub
  rw [ex]
  have hA := sv_form x m p vx
  have hB : -sv x = if (!decide (9223372036854775808 ≤ x)) then -((m * 2 ^ p : Nat) : Int) else ((m * 2 ^ p : Nat) : Int) := by
    rw [sv_form x m p vx]
    by_cases c : 9223372036854775808 ≤ x <;> simp [c]
  obtain ⟨mag, b, e, hv⟩ := sum_val _ _ m m p p (sv x) (-sv x) hA hB
  show ((Ieee.Datum.number _ m _).sum (.number (!decide (9223372036854775808 ≤ x)) m _)).map _ = _
  rw [e]
  have c1 : sv x + -sv x = 0 := by omega
  rw [if_pos c1]
  have hm0 : mag = 0 := by
    rw [c1] at hv
    rcases Nat.mul_eq_zero.1 (show mag * 2 ^ b = 0 from hv) with h | h
    · exact h
    · have := Nat.two_pow_pos b; omega
  show some (FloatKind.f64.format.nearest _ mag ((b : Int) - 1074)) = some 0
  rw [hm0, nearest_zero]
  have : (decide (9223372036854775808 ≤ x) && !decide (9223372036854775808 ≤ x)) = false := by cases decide (9223372036854775808 ≤ x) <;> rfl
  rw [this, word_false]
theorem sub_self_bad {x : Nat} (hx : x < 18446744073709551616) (fx : ¬ x % 9223372036854775808 < 9218868437227405312) : FloatKind.f64.format.sub x x = none := by
  by_cases c : 9218868437227405312 < x % 9223372036854775808
  · unfold Ieee.Format.sub
    obtain ⟨s, t, e⟩ := read_nan x c
    rw [e]
    rfl
  · have : x = 9218868437227405312 ∨ x = 18442240474082181120 := by omega
    rcases this with rfl | rfl <;> decide +kernel
/-- Whether a number is finite. -/
def finB (x : Nat) : Bool := decide (x % 9223372036854775808 < 9218868437227405312)
theorem full_self {x : Nat} (hx : x < 18446744073709551616) : fullB x x = finB x := by
  unfold finB
  by_cases c : 9218868437227405312 < x % 9223372036854775808
  · rw [decide_eq_false (by omega)]
    unfold fullB
    rw [order_nan_l x x c]; rfl
  · have hn : x % 9223372036854775808 ≤ 9218868437227405312 := by omega
    have e : leB x x = true := by
      unfold leB
      rw [order_eq x x hx hx hn hn, cmp_eq rfl]; rfl
    unfold leB at e
    unfold fullB
    rw [e, order_eq x _ hx (by decide) hn (by decide), order_eq x _ hx (by decide) hn (by decide), pi_neg]
    obtain ⟨_, _, b3, b4⟩ := sv_beyond hn
    have hp := pi_pos
    show (true && (some (compare (sv x) PI) == some .lt) && _) = _
    have hv := pi_nv
    by_cases d : x % 9223372036854775808 < 9218868437227405312
    · rw [decide_eq_true d]
      have := nv_lt d
      have k : -PI < sv x ∧ sv x < PI := by
        rw [hv]; unfold sv; split <;> omega
      rw [cmp_lt k.2, cmp_gt k.1]; rfl
    · rw [decide_eq_false d]
      have : sv x = PI ∨ sv x = -PI := by
        have e2 : x % 9223372036854775808 = 9218868437227405312 := by omega
        rw [hv]; unfold sv; rw [e2]
        split
        · right; rfl
        · left; rfl
      rcases this with k | k
      · rw [cmp_eq k]; rfl
      · rw [cmp_eq k]
        cases (some (compare (sv x) PI) == some Ordering.lt) <;> rfl
theorem newV_fin {x : Nat} (hx : x < 18446744073709551616) (h : finB x = true) : newV x x = .tuple #[IV (plusOf x) (plusOf x), .int .i64 0] := if_pos (by rw [full_self hx, h])
theorem newV_bad {x : Nat} (hx : x < 18446744073709551616) (h : finB x = false) : newV x x = .tuple #[IV 0 0, .int .i64 60] := if_neg (by rw [full_self hx, h]; decide)
end Go.Proofs.YtilffgmekeeohaaDoor

namespace Go.Proofs.YtilffgmekeeohaaDoor
open Go.RowKit

set_option maxHeartbeats 400000 in
theorem next64_any (x : Nat) (w : World) (hx : x < 18446744073709551616) :
    Calls Tryd.prog 76 #[.agg #[.int .i64 52, .int .u64 4503599627370495, .int .u64 2047, .int .u64 9223372036854775808, .int .u64 9218868437227405312, .int .u64 9221120237041090561, .int .i64 1075], .int .u64 x] w fun e w' => e = .returned (.int .u64 (nextOf x)) ∧ Below w.heap.size w w' := by
  have HL : Hid (canonOf x < 18446744073709551616) := canon_lt hx
  have HC : Hid (canonOf x = 9221120237041090561 ∨ canonOf x % 9223372036854775808 ≤ 9218868437227405312) := canon_cases x
  obtain ⟨c, hc⟩ : ∃ c, Hid (canonOf x = c) := ⟨_, rfl⟩
  rw [hc.out] at HL HC
  go_enter Tryd.func76, Tryd.ntmps76
  go_wp2_with fail
  refine (canon_any x _ hx).mono ?_
  rintro e w1 ⟨rfl, hb⟩
  rw [hc.out]
  obtain ⟨hcl, hf⟩ := bcell hb
  go_wp2
  all_goals go_ret
  · first | exact ⟨ret_int (next_w1 hc.out ‹_›), bl_alloc hb⟩ | exact ⟨ret_int (by rw [← next_w1 hc.out ‹_›]; exact Eq.symm ‹_›), bl_alloc hb⟩
  · exact ⟨ret_int (next_w2 hc.out ‹_›), bl_alloc hb⟩
  · exact ⟨ret_int (next_w3 hc.out ‹_›), bl_alloc hb⟩
  · exact ⟨ret_int (next_w4 hc.out HL.out ‹_› ‹_› ‹_›), bl_alloc hb⟩
  · exact ⟨ret_int (next_w5 hc.out HL.out HC.out ‹_› ‹_› ‹_›), bl_alloc hb⟩

set_option maxHeartbeats 400000 in
theorem Next_any (x : Nat) (w : World) (hx : x < 18446744073709551616) :
    Calls Tryd.prog 64 #[.float .f64 x] w fun r w' => r = .returned (.float .f64 (nextOf x)) ∧ Below w.heap.size w w' := by
  have h1 := f64bits
  have h2 := f64from
  go_enter Tryd.func64, Tryd.ntmps64
  go_wp2_with fail
  refine (layout64_any _).mono ?_
  rintro r w1 ⟨rfl, hb⟩
  go_wp2_with fail
  refine (next64_any x _ hx).mono ?_
  rintro r w2 ⟨rfl, hb2⟩
  go_wp2_with fail
  go_ret
  exact ⟨rfl, bl_then hb hb2⟩

set_option maxHeartbeats 400000 in
theorem prev64_nan (x : Nat) (w : World) (hx : x < 18446744073709551616) (hn : canonOf x = 9221120237041090561) :
    Calls Tryd.prog 77 #[.agg #[.int .i64 52, .int .u64 4503599627370495, .int .u64 2047, .int .u64 9223372036854775808, .int .u64 9218868437227405312, .int .u64 9221120237041090561, .int .i64 1075], .int .u64 x] w fun e w' => e = .returned (.int .u64 9221120237041090561) ∧ Below w.heap.size w w' := by
  have HN : Hid (canonOf x = 9221120237041090561) := hn
  clear hn
  go_enter Tryd.func77, Tryd.ntmps77
  go_wp2_with fail
  refine (canon_any x _ hx).mono ?_
  rintro e w1 ⟨rfl, hb⟩
  rw [HN.out]
  obtain ⟨hcl, hf⟩ := bcell hb
  go_wp2
  go_ret
  exact ⟨rfl, bl_alloc hb⟩
set_option maxHeartbeats 400000 in
theorem prev64_num (x : Nat) (w : World) (hx : x < 18446744073709551616) (hn : canonOf x ≠ 9221120237041090561) :
    Calls Tryd.prog 77 #[.agg #[.int .i64 52, .int .u64 4503599627370495, .int .u64 2047, .int .u64 9223372036854775808, .int .u64 9218868437227405312, .int .u64 9221120237041090561, .int .i64 1075], .int .u64 x] w fun e w' => e = .returned (.int .u64 (flipOf (nextOf (flipOf (canonOf x))))) ∧ Below w.heap.size w w' := by
  have HL : Hid (canonOf x < 18446744073709551616) := canon_lt hx
  obtain ⟨c, hc⟩ : ∃ c, Hid (canonOf x = c) := ⟨_, rfl⟩
  rw [hc.out] at HL hn ⊢
  have hn' : ((c : Int) == 9221120237041090561) = false := by simp; omega
  have hx1 := xor_sign c HL.out
  have HF : Hid (flipOf c < 18446744073709551616) := flip_lt HL.out
  obtain ⟨d, hd⟩ : ∃ d, Hid (flipOf c = d) := ⟨_, rfl⟩
  rw [hd.out] at HF hx1 ⊢
  have hx2 := xor_sign (nextOf d) (next_lt HF.out)
  clear hn
  go_enter Tryd.func77, Tryd.ntmps77
  go_wp2_with fail
  refine (canon_any x _ hx).mono ?_
  rintro e w1 ⟨rfl, hb⟩
  rw [hc.out]
  obtain ⟨hcl, hf⟩ := bcell hb
  have hcells : (w1.cell? ⟨w.heap.size, 0, none⟩ = some (.int .i64 52) ∧ w1.cell? ⟨w.heap.size, 1, none⟩ = some (.int .u64 4503599627370495) ∧ w1.cell? ⟨w.heap.size, 2, none⟩ = some (.int .u64 2047) ∧ w1.cell? ⟨w.heap.size, 3, none⟩ = some (.int .u64 9223372036854775808) ∧ w1.cell? ⟨w.heap.size, 4, none⟩ = some (.int .u64 9218868437227405312) ∧ w1.cell? ⟨w.heap.size, 5, none⟩ = some (.int .u64 9221120237041090561) ∧ w1.cell? ⟨w.heap.size, 6, none⟩ = some (.int .i64 1075)) := by
    refine ⟨?_, ?_, ?_, ?_, ?_, ?_, ?_⟩ <;> (rw [hcl _ _ (by simp)]; simp [go_sem])
  have hz : w.heap.size < w1.heap.size := by have := hb.size; simp at this; omega
  have hbb : Hid (Below w.heap.size w w1) := bl_alloc hb
  clear hcl hf hb
  obtain ⟨q0, q1, q2, q3, q4, q5, q6⟩ := hcells
  go_wp2_with fail
  go_region_held3 (fun w' => (w'.cell? ⟨w.heap.size, 0, none⟩ = some (.int .i64 52) ∧ w'.cell? ⟨w.heap.size, 1, none⟩ = some (.int .u64 4503599627370495) ∧ w'.cell? ⟨w.heap.size, 2, none⟩ = some (.int .u64 2047) ∧ w'.cell? ⟨w.heap.size, 3, none⟩ = some (.int .u64 9223372036854775808) ∧ w'.cell? ⟨w.heap.size, 4, none⟩ = some (.int .u64 9218868437227405312) ∧ w'.cell? ⟨w.heap.size, 5, none⟩ = some (.int .u64 9221120237041090561) ∧ w'.cell? ⟨w.heap.size, 6, none⟩ = some (.int .i64 1075))) (go_keep)
    (first | (go_at_call 76; refine (next64_any d _ HF.out).mono ?_; rintro r w' ⟨rfl, hb⟩; obtain ⟨hc2, hf2⟩ := bcell hb; have hS : (w'.cell? ⟨w.heap.size, 0, none⟩ = some (.int .i64 52) ∧ w'.cell? ⟨w.heap.size, 1, none⟩ = some (.int .u64 4503599627370495) ∧ w'.cell? ⟨w.heap.size, 2, none⟩ = some (.int .u64 2047) ∧ w'.cell? ⟨w.heap.size, 3, none⟩ = some (.int .u64 9223372036854775808) ∧ w'.cell? ⟨w.heap.size, 4, none⟩ = some (.int .u64 9218868437227405312) ∧ w'.cell? ⟨w.heap.size, 5, none⟩ = some (.int .u64 9221120237041090561) ∧ w'.cell? ⟨w.heap.size, 6, none⟩ = some (.int .i64 1075)) := (by refine ⟨?_, ?_, ?_, ?_, ?_, ?_, ?_⟩ <;> (rw [hc2 _ _ (by simp; omega)]; simp [go_sem, q0, q1, q2, q3, q4, q5, q6])); obtain ⟨s0, s1, s2, s3, s4, s5, s6⟩ := hS; clear hc2 hf2))
  go_wp2
  go_ret
  exact ⟨rfl, bl_then (Below.drew hbb.out) hb⟩

theorem prev64_any (x : Nat) (w : World) (hx : x < 18446744073709551616) :
    Calls Tryd.prog 77 #[.agg #[.int .i64 52, .int .u64 4503599627370495, .int .u64 2047, .int .u64 9223372036854775808, .int .u64 9218868437227405312, .int .u64 9221120237041090561, .int .i64 1075], .int .u64 x] w fun e w' => e = .returned (.int .u64 (prevOf x)) ∧ Below w.heap.size w w' := by
  unfold prevOf
  by_cases h : canonOf x = 9221120237041090561
  · rw [if_pos h]; exact prev64_nan x w hx h
  · rw [if_neg h]; exact prev64_num x w hx h
set_option maxHeartbeats 400000 in
theorem Prev_any (x : Nat) (w : World) (hx : x < 18446744073709551616) :
    Calls Tryd.prog 65 #[.float .f64 x] w fun r w' => r = .returned (.float .f64 (prevOf x)) ∧ Below w.heap.size w w' := by
  have h1 := f64bits
  have h2 := f64from
  go_enter Tryd.func65, Tryd.ntmps65
  go_wp2_with fail
  refine (layout64_any _).mono ?_
  rintro r w1 ⟨rfl, hb⟩
  go_wp2_with fail
  refine (prev64_any x _ hx).mono ?_
  rintro r w2 ⟨rfl, hb2⟩
  go_wp2_with fail
  go_ret
  exact ⟨rfl, bl_then hb hb2⟩
end Go.Proofs.YtilffgmekeeohaaDoor
