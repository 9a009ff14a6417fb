
/- What math/bits.TrailingZeros64, Len64, and layer 1's signed and lowestBit do. -/
import Derived.Test.YteidllapjokhlaaDoorP10
import Derived.Test.YteidllapjokhlaaDoorP1
import Derived.Lib.Walk
import Derived.Lib.BitFns
import Derived.Lib.Strings
import Derived.Lib.Slices
import Derived.Lib.Small
import Derived.Test.YteidllapjokhlaaDoorP3
import Derived.Test.YteidllapjokhlaaDoorP11
import Derived.Test.YteidllapjokhlaaDoorP7
namespace Go.Proofs.YteidllapjokhlaaDoor
open Go.RowKit

/-- The library's table stands in its variable. -/
def Tab (w : World) : Prop := ∀ j, j < 64 → w.cell? ⟨2, j, none⟩ = some (.int .u8 (Lib.deBruijn64tab.getD j 0))
theorem Tab.below {w w' : World} (h : Tab w) (hs : 2 < w.heap.size) (hb : Below w.heap.size w w') : Tab w' := fun j hj => by rw [hb.cell (p := ⟨2, j, none⟩) hs]; exact h j hj

set_option maxHeartbeats 400000 in
theorem tz_core (x k idx : Nat) (w : World) (hx0 : ((x : Int) == 0) = false)
    (key : IntKind.u64.wrap (bits BinOp.and IntKind.u64 (x : Int) (IntKind.u64.wrap (-(x : Int))) * 285870213051353865) / 288230376151711744 = (idx : Int))
    (hi : idx < 64) (hk : k < 64) (hcell : w.cell? ⟨2, idx, none⟩ = some (.int .u8 k)) :
    Calls Tryd.prog 103 #[.int .u64 x] w fun e w' => e = .returned (.int .i64 k) ∧ w' = w := by
  go_enter Tryd.func103, Tryd.ntmps103
  go_wp2_with (simp only [key])
  go_ret
  exact ⟨rfl, rfl⟩
set_option maxHeartbeats 400000 in
theorem tz_zero (w : World) :
    Calls Tryd.prog 103 #[.int .u64 0] w fun e w' => e = .returned (.int .i64 64) ∧ w' = w := by
  go_enter Tryd.func103, Tryd.ntmps103
  go_wp2
  go_ret
  exact ⟨rfl, rfl⟩
theorem tz_any (x : Nat) (w : World) (hx : x < 18446744073709551616) (hT : Tab w) :
    Calls Tryd.prog 103 #[.int .u64 x] w fun e w' => e = .returned (.int .i64 (tzOf x)) ∧ w' = w := by
  by_cases hx0 : x = 0
  · subst hx0
    exact tz_zero w
  · obtain ⟨hlow, hk⟩ := Lib.lowest_bit 64 x hx0 hx
    obtain ⟨hi, htab⟩ := Lib.deBruijn64_at _ hk
    have hcell := hT _ hi
    rw [htab] at hcell
    exact tz_core x (Lib.ctz 64 x) _ w (by simpa using hx0) (tz_key x _ hx hx0 hlow) hi hk hcell

set_option maxHeartbeats 400000 in
theorem lowest_any (e : Int) (w : World) (h1 : -2000 ≤ e) (h2 : e ≤ 3000) :
    Calls Tryd.prog 104 #[.agg #[.int .i64 52, .int .u64 4503599627370495, .int .u64 2047, .int .u64 9223372036854775808, .int .u64 9218868437227405312, .int .u64 9221120237041090561, .int .i64 1075], .int .i64 e] w fun r w' => r = .returned (.int .i64 (max e 1 - 1075)) ∧ w' = w.alloc (.cells #[.int .i64 52, .int .u64 4503599627370495, .int .u64 2047, .int .u64 9223372036854775808, .int .u64 9218868437227405312, .int .u64 9221120237041090561, .int .i64 1075] 91) := by
  go_enter Tryd.func104, Tryd.ntmps104
  go_wp2
  all_goals go_ret
  all_goals exact ⟨ret_int (by omega), rfl⟩
theorem lowest0 (w : World) :
    Calls Tryd.prog 104 #[.agg #[.int .i64 52, .int .u64 4503599627370495, .int .u64 2047, .int .u64 9223372036854775808, .int .u64 9218868437227405312, .int .u64 9221120237041090561, .int .i64 1075], .int .i64 0] w fun r w' => r = .returned (.int .i64 (-1074)) ∧ w' = w.alloc (.cells #[.int .i64 52, .int .u64 4503599627370495, .int .u64 2047, .int .u64 9223372036854775808, .int .u64 9218868437227405312, .int .u64 9221120237041090561, .int .i64 1075] 91) :=
  lowest_any 0 w (by omega) (by omega)
theorem lowest0_b (w : World) :
    Calls Tryd.prog 104 #[.agg #[.int .i64 52, .int .u64 4503599627370495, .int .u64 2047, .int .u64 9223372036854775808, .int .u64 9218868437227405312, .int .u64 9221120237041090561, .int .i64 1075], .int .i64 0] w fun r w' => r = .returned (.int .i64 (-1074)) ∧ Below w.heap.size w w' :=
  (lowest0 w).mono fun _ _ h => ⟨h.1, by rw [h.2]; exact (Below.refl _ _).alloc (Nat.le_refl _) _⟩
theorem lowest_k (e k : Nat) (w : World) (he : e ≤ 2047) (hk : max e 1 = k + 1) :
    Calls Tryd.prog 104 #[.agg #[.int .i64 52, .int .u64 4503599627370495, .int .u64 2047, .int .u64 9223372036854775808, .int .u64 9218868437227405312, .int .u64 9221120237041090561, .int .i64 1075], .int .i64 e] w fun r w' => r = .returned (.int .i64 ((k : Int) - 1074)) ∧ w' = w.alloc (.cells #[.int .i64 52, .int .u64 4503599627370495, .int .u64 2047, .int .u64 9223372036854775808, .int .u64 9218868437227405312, .int .u64 9221120237041090561, .int .i64 1075] 91) :=
  (lowest_any e w (by omega) (by omega)).mono fun _ _ h => ⟨by rw [h.1]; exact ret_int (by omega), h.2⟩
theorem fold_len : (⟨((([0, 1, 2, 2, 3, 3, 3, 3, 4, 4, 4, 4, 4, 4, 4, 4, 5, 5, 5, 5, 5, 5, 5, 5, 5, 5, 5, 5, 5, 5, 5, 5, 6, 6, 6, 6, 6, 6, 6, 6, 6, 6, 6, 6, 6, 6, 6, 6, 6, 6, 6, 6, 6, 6, 6, 6, 6, 6, 6, 6, 6, 6, 6, 6] : List UInt8).append [7, 7, 7, 7, 7, 7, 7, 7, 7, 7, 7, 7, 7, 7, 7, 7, 7, 7, 7, 7, 7, 7, 7, 7, 7, 7, 7, 7, 7, 7, 7, 7, 7, 7, 7, 7, 7, 7, 7, 7, 7, 7, 7, 7, 7, 7, 7, 7, 7, 7, 7, 7, 7, 7, 7, 7, 7, 7, 7, 7, 7, 7, 7, 7]).append (([8, 8, 8, 8, 8, 8, 8, 8, 8, 8, 8, 8, 8, 8, 8, 8, 8, 8, 8, 8, 8, 8, 8, 8, 8, 8, 8, 8, 8, 8, 8, 8, 8, 8, 8, 8, 8, 8, 8, 8, 8, 8, 8, 8, 8, 8, 8, 8, 8, 8, 8, 8, 8, 8, 8, 8, 8, 8, 8, 8, 8, 8, 8, 8] : List UInt8).append [8, 8, 8, 8, 8, 8, 8, 8, 8, 8, 8, 8, 8, 8, 8, 8, 8, 8, 8, 8, 8, 8, 8, 8, 8, 8, 8, 8, 8, 8, 8, 8, 8, 8, 8, 8, 8, 8, 8, 8, 8, 8, 8, 8, 8, 8, 8, 8, 8, 8, 8, 8, 8, 8, 8, 8, 8, 8, 8, 8, 8, 8, 8, 8])).toArray⟩ : ByteArray) = Lib.len8tab := by kernel_rfl
end Go.Proofs.YteidllapjokhlaaDoor

namespace Go.Proofs.YteidllapjokhlaaDoor
open Go.RowKit Go.IntWalk

set_option maxHeartbeats 400000 in
theorem bits_any (x : Nat) (w : World) (hx : x < 18446744073709551616) :
    Calls Tryd.prog 88 #[.float .f64 x] w fun e w' => e = .returned (.int .u64 (canonOf x)) ∧ w' = w := by
  have h1 := f64bits
  have ho := order_self x hx
  by_cases h : 9218868437227405312 < x % 9223372036854775808
  · rw [decide_eq_true h] at ho
    have H : Hid (9218868437227405312 < x % 9223372036854775808) := h
    clear h
    go_enter Tryd.func88, Tryd.ntmps88
    go_wp2
    go_ret
    exact ⟨ret_int (by unfold canonOf; rw [if_pos H.out]; rfl), rfl⟩
  · rw [decide_eq_false h] at ho
    have H : Hid (¬ 9218868437227405312 < x % 9223372036854775808) := h
    clear h
    go_enter Tryd.func88, Tryd.ntmps88
    go_wp2
    go_ret
    exact ⟨ret_int (by unfold canonOf; rw [if_neg H.out]), rfl⟩

theorem neg_r {x : Nat} (hx : x < 18446744073709551616) : ((canonOf x : Int) / 9223372036854775808 == 1) = negOf x := by
  have hl := canon_lt hx
  unfold negOf
  rw [Bool.eq_iff_iff, beq_iff_eq, decide_eq_true_eq]
  omega
theorem exp_r {x : Nat} (hx : x < 18446744073709551616) : (canonOf x : Int) / 4503599627370496 % 2048 = (expOf x : Int) := by
  have hl := canon_lt hx
  unfold expOf
  omega
theorem frac_r (x : Nat) : (canonOf x : Int) % 4503599627370496 = (fracOf x : Int) := by
  unfold fracOf
  omega

set_option maxHeartbeats 400000 in
theorem rsplit_any (x : Nat) (w : World) (hx : x < 18446744073709551616) :
    Calls Tryd.prog 64 #[.float .f64 x] w fun e w' => e = .returned (.tuple #[.bool (negOf x), .int .i64 (expOf x), .int .u64 (fracOf x)]) ∧ w' = w := by
  go_enter Tryd.func64, Tryd.ntmps64
  go_wp2_with fail
  refine (bits_any x _ hx).mono ?_
  rintro e w' ⟨rfl, rfl⟩
  go_wp2_with fail
  go_ret3
  exact ⟨ret_bii (neg_r hx) (exp_r hx) (frac_r x), rfl⟩

set_option maxHeartbeats 400000 in
theorem classify_any (x : Nat) (w : World) :
    Calls Tryd.prog 99 #[.int .i64 (expOf x), .int .u64 (fracOf x), .int .i64 2047] w fun e w' => e = .returned (.int .i64 (classN x)) ∧ w' = w := by
  go_enter Tryd.func99, Tryd.ntmps99
  go_wp2
  all_goals (go_ret; refine ⟨ret_int ?_, rfl⟩; unfold classN; simp_all; try (split <;> first | rfl | omega))
set_option maxHeartbeats 400000 in
theorem rclass_any (x : Nat) (w : World) (hx : x < 18446744073709551616) :
    Calls Tryd.prog 80 #[.float .f64 x] w fun e w' => e = .returned (.int .i64 (classN x)) ∧ w' = w := by
  go_enter Tryd.func80, Tryd.ntmps80
  go_wp2_with fail
  refine (rsplit_any x _ hx).mono ?_
  rintro e w' ⟨rfl, rfl⟩
  go_wp2_with fail
  refine (classify_any x _).mono ?_
  rintro e w' ⟨rfl, rfl⟩
  go_wp2_with fail
  go_ret
  exact ⟨rfl, rfl⟩
theorem class_fin (x : Nat) : decide ((2 : Int) < (classN x : Int)) = !(expOf x == 2047) := by
  unfold classN
  by_cases h : expOf x = 2047
  · rw [if_pos h, h]; split <;> rfl
  · rw [if_neg h]
    have : (expOf x == 2047) = false := by simpa using h
    rw [this]
    split
    · split <;> rfl
    · rfl
set_option maxHeartbeats 400000 in
theorem rfinite_any (x : Nat) (w : World) (hx : x < 18446744073709551616) :
    Calls Tryd.prog 56 #[.float .f64 x] w fun r w' => r = .returned (.bool (!(expOf x == 2047))) ∧ w' = w := by
  go_enter Tryd.func56, Tryd.ntmps56
  go_wp2_with fail
  refine (rclass_any x _ hx).mono ?_
  rintro r w' ⟨rfl, rfl⟩
  go_wp2_with fail
  go_ret
  exact ⟨ret_bool (class_fin x), rfl⟩
end Go.Proofs.YteidllapjokhlaaDoor

namespace Go.Proofs.YteidllapjokhlaaDoor
open Go.RowKit Go.IntWalk

set_option maxRecDepth 4000 in
set_option maxHeartbeats 1000000 in
/-- From the fields to the parts, by odd's answer. -/
theorem rParts_core (x : Nat) (neg : Bool) (E F G e' m k : Int) (w : World) (hS : ∀ W, Calls Tryd.prog 64 #[.float .f64 x] W fun e w' => e = .returned (.tuple #[.bool neg, .int .i64 E, .int .u64 F]) ∧ w' = W) (hE0 : 0 ≤ E) (hE : E ≤ 2046) (hF0 : 0 ≤ F) (hF : F ≤ 4503599627370495) (hG : G = if 0 < E then F + 4503599627370496 else F) (he : e' = (if 0 < E then E - 1 else E) - 1074)
    (hO : ∀ W, Calls Tryd.prog 65 #[.int .u64 G, .int .i64 e'] W fun r w' => r = .returned (.tuple #[.int .u64 m, .int .i64 k]) ∧ w' = W) :
    Calls Tryd.prog 41 #[.float .f64 x] w fun r w' => r = .returned (.tuple #[.agg #[.bool neg, .int .u64 m, .int .i64 k], .int .i64 0]) ∧ Below w.heap.size w w' := by
  have HS := hid hS
  have HO := hid hO
  clear hS hO
  have hEn : ¬ E = 2047 := by omega
  by_cases h0 : 0 < E
  · rw [if_pos h0] at hG he
    have hw1 : IntKind.u64.wrap (F + 4503599627370496) = G := by rw [IntKind.wrap_u64]; omega
    have hw2 : F + 4503599627370496 = G := by omega
    have hw2' : IntKind.u64.wrap G = G := by rw [IntKind.wrap_u64]; omega
    have hw3 : IntKind.i64.wrap (E - 1) = E - 1 := by rw [IntWalk.i64_in _ (by omega)]
    have hw4 : IntKind.i64.wrap (E - 1 - 1074) = e' := by rw [IntWalk.i64_in _ (by omega)]; omega
    have hw5 : E - 1 - 1074 = e' := by omega
    have hw6 : wrap64 e' = e' := by unfold wrap64; omega
    have hw7 : IntKind.i64.wrap e' = e' := by rw [IntWalk.i64_in _ (by omega)]
    clear hG he hF hE hF0 hE0
    go_enter Tryd.func41, Tryd.ntmps41
    go_wp2_with fail
    refine (HS.out _).mono ?_
    rintro r w1 ⟨rfl, rfl⟩
    go_wp2_with fail
    refine (HO.out _).mono ?_
    rintro r w2 ⟨rfl, rfl⟩
    go_wp2
    exact bodyPost_ret (v := .tuple #[.agg #[.bool neg, .int .u64 m, .int .i64 k], .int .i64 0]) (by simp [results, Tryd.results41, go_sem]) rfl ⟨rfl, (Below.refl _ _).alloc (Nat.le_refl _) _⟩
  · rw [if_neg h0] at hG he
    have hE1 : E = 0 := by omega
    subst hE1
    subst hG
    have he2 : e' = -1074 := by omega
    subst he2
    clear he hF hE hF0 hE0 h0
    go_enter Tryd.func41, Tryd.ntmps41
    go_wp2_with fail
    refine (HS.out _).mono ?_
    rintro r w1 ⟨rfl, rfl⟩
    go_wp2_with fail
    refine (HO.out _).mono ?_
    rintro r w2 ⟨rfl, rfl⟩
    go_wp2
    exact bodyPost_ret (v := .tuple #[.agg #[.bool neg, .int .u64 m, .int .i64 k], .int .i64 0]) (by simp [results, Tryd.results41, go_sem]) rfl ⟨rfl, (Below.refl _ _).alloc (Nat.le_refl _) _⟩
set_option maxHeartbeats 1000000 in
theorem rParts_bad (x : Nat) (neg : Bool) (F : Int) (w : World) (hS : ∀ W, Calls Tryd.prog 64 #[.float .f64 x] W fun e w' => e = .returned (.tuple #[.bool neg, .int .i64 2047, .int .u64 F]) ∧ w' = W) :
    Calls Tryd.prog 41 #[.float .f64 x] w fun r w' => r = .returned (.tuple #[.agg #[.bool false, .int .u64 0, .int .i64 0], .int .i64 4]) ∧ Below w.heap.size w w' := by
  have HS := hid hS
  clear hS
  go_enter Tryd.func41, Tryd.ntmps41
  go_wp2_with fail
  refine (HS.out _).mono ?_
  rintro r w1 ⟨rfl, rfl⟩
  go_wp2
  exact bodyPost_ret (v := .tuple #[.agg #[.bool false, .int .u64 0, .int .i64 0], .int .i64 4]) (by simp [results, Tryd.results41, go_sem]) rfl ⟨rfl, (Below.refl _ _).alloc (Nat.le_refl _) _⟩
theorem rParts_any (x : Nat) (w : World) (hx : x < 18446744073709551616) :
    Calls Tryd.prog 41 #[.float .f64 x] w fun r w' => r = .returned (.tuple #[.agg #[.bool (pNeg x), .int .u64 (pMant x), .int .i64 (pExp x)], .int .i64 (pErr x)]) ∧ Below w.heap.size w w' := by
  have hS := fun (W : World) => rsplit_any x W hx
  have hel := exp_lt x
  have hfl := frac_lt x
  by_cases h : expOf x = 2047
  · have e1 : pNeg x = false := by unfold pNeg; rw [if_pos h]
    have e2 : pMant x = 0 := by unfold pMant; rw [if_pos h]
    have e3 : pExp x = 0 := by unfold pExp; rw [if_pos (Or.inl h)]
    have e4 : pErr x = 4 := by unfold pErr; rw [if_pos h]
    rw [h] at hS
    rw [e1, e2, e3, e4]
    exact rParts_bad x _ _ w hS
  · have e1 : pNeg x = negOf x := by unfold pNeg; rw [if_neg h]
    have e2 : pMant x = oddOf (mantOf x) := by unfold pMant; rw [if_neg h]
    have e4 : pErr x = 0 := by unfold pErr; rw [if_neg h]
    have hml := mant_lt x
    rw [e1, e2, e4]
    have hG : (mantOf x : Int) = if (0 : Int) < (expOf x : Int) then (fracOf x : Int) + 4503599627370496 else (fracOf x : Int) := by
      unfold mantOf
      split <;> split <;> omega
    by_cases h0 : mantOf x = 0
    · have e3 : pExp x = 0 := by unfold pExp; rw [if_pos (Or.inr h0)]
      have e5 : oddOf (mantOf x) = 0 := by rw [h0]; exact Nat.zero_div _
      rw [e3, e5]
      refine rParts_core x _ (expOf x) (fracOf x) (mantOf x) _ 0 0 w hS (by omega) (by omega) (by omega) (by omega) hG rfl (fun W => ?_)
      rw [h0]
      exact rodd_zero _ W
    · have e3 : pExp x = (if (0 : Int) < (expOf x : Int) then (expOf x : Int) - 1 else (expOf x : Int)) - 1074 + (tzOf (mantOf x) : Int) := by
        unfold pExp
        rw [if_neg (by omega)]
        split <;> omega
      rw [e3]
      exact rParts_core x _ (expOf x) (fracOf x) (mantOf x) _ _ _ w hS (by omega) (by omega) (by omega) (by omega) hG rfl (fun W => rodd_any (mantOf x) _ W (by omega) h0 (by split <;> omega) (by split <;> omega))
end Go.Proofs.YteidllapjokhlaaDoor

namespace Go.Proofs.YteidllapjokhlaaDoor
open Go

def natL : List Nat → Nat
  | [] => 0
  | d :: t => d + 4294967296 * natL t
/-- All words fit; the last one isn't 0. -/
def DigL (L : List Nat) : Prop := ∀ d, d ∈ L → d < 4294967296
def CanL (L : List Nat) : Prop := L ≠ [] → L.getD (L.length - 1) 0 ≠ 0
theorem natL_append (A B : List Nat) : natL (A ++ B) = natL A + 4294967296 ^ A.length * natL B := by
  induction A with
  | nil => show natL B = 0 + 1 * natL B; omega
  | cons d t ih =>
    show d + 4294967296 * natL (t ++ B) = d + 4294967296 * natL t + 4294967296 ^ (t.length + 1) * natL B
    rw [ih, Nat.mul_add, Nat.pow_succ, Nat.mul_comm (4294967296 ^ t.length) 4294967296, Nat.mul_assoc]
    omega
theorem DigL.get {L : List Nat} (h : DigL L) (i : Nat) : L.getD i 0 < 4294967296 := by
  rw [List.getD_eq_getElem?_getD]
  cases hc : L[i]? with
  | none => decide
  | some d => exact h d (List.mem_of_getElem? hc)
theorem DigL.take {L : List Nat} (h : DigL L) (k : Nat) : DigL (L.take k) := fun d hd => h d (List.mem_of_mem_take hd)
theorem natL_lt (L : List Nat) (h : DigL L) : natL L < 4294967296 ^ L.length := by
  induction L with
  | nil => decide
  | cons d t ih =>
    have h1 := h d (List.mem_cons_self ..)
    have h2 := ih (fun e he => h e (List.mem_cons_of_mem _ he))
    show d + 4294967296 * natL t < 4294967296 ^ (t.length + 1)
    rw [Nat.pow_succ, Nat.mul_comm (4294967296 ^ t.length)]
    omega
theorem natL_take_succ (L : List Nat) (k : Nat) (h : k < L.length) : natL (L.take (k + 1)) = natL (L.take k) + 4294967296 ^ k * L.getD k 0 := by
  rw [List.take_succ_eq_append_getElem h, natL_append, List.length_take, Nat.min_eq_left (Nat.le_of_lt h)]
  congr 1
  show _ * (L[k] + 4294967296 * 0) = _
  rw [Nat.mul_zero, Nat.add_zero]
  simp [List.getD, h]
/-- Noughts at the end count for nothing. -/
theorem natL_take_zero (L : List Nat) (k : Nat) (h : k < L.length) (hz : L.getD k 0 = 0) : natL (L.take (k + 1)) = natL (L.take k) := by
  rw [natL_take_succ L k h, hz, Nat.mul_zero, Nat.add_zero]
/-- A list without noughts at its end is the only one of its value. -/
theorem natL_ge (L : List Nat) (h0 : L ≠ []) (hc : CanL L) : 4294967296 ^ (L.length - 1) ≤ natL L := by
  obtain ⟨k, hk⟩ : ∃ k, L.length = k + 1 := ⟨L.length - 1, by have := List.length_pos_iff.2 h0; omega⟩
  have e := natL_take_succ L k (by omega)
  rw [← hk, List.take_length] at e
  have hne := hc h0
  rw [hk] at hne ⊢
  rw [Nat.add_sub_cancel] at hne ⊢
  have : 4294967296 ^ k * 1 ≤ 4294967296 ^ k * L.getD k 0 := Nat.mul_le_mul_left _ (by omega)
  omega
theorem natL_zero (L : List Nat) (hc : CanL L) : natL L = 0 ↔ L = [] := by
  constructor
  · intro h
    apply Classical.byContradiction
    intro h0
    have := natL_ge L h0 hc
    have := Nat.pow_pos (n := L.length - 1) (show 0 < 4294967296 by decide)
    omega
  · intro h; rw [h]; rfl
end Go.Proofs.YteidllapjokhlaaDoor
