
/- What convert's Whole, Int and Uint give of any number that is no NaN, with their flags. (Written by mkwhf.py.) -/
import Derived.Test.YtpgcelbgmpfliaaGreatDoorV41
namespace Go.Proofs.YtpgcelbgmpfliaaGreatDoor
open Go.RowKit Go.IntWalk

/-- The flags of Whole. -/
def whFl (x : Nat) : Int := if x % 9223372036854775808 = 9218868437227405312 ∨ (x % 9223372036854775808 = 0 ∨ 0 ≤ pExp x) then 0 else if cutR (pMant x) (0 - pExp x) = 0 then 0 else 1
def clF (lo hi T v Y : Int) : Int := if v < lo * T then 8 else if (hi + 1) * T ≤ v then 8 else Y
theorem Whole_full (x : Nat) (mode : Int) (w : World) (hx : x < 18446744073709551616) (hn : x % 9223372036854775808 ≤ 9218868437227405312) (hm1 : 0 ≤ mode) (hm2 : mode ≤ 4) (hT : Tab w) (hs : 1 < w.heap.size) :
    Calls Tryz.prog 15 #[.float .f64 x, .int .i64 mode] w fun r w' => r = .returned (.tuple #[.float .f64 (signN (decide (9223372036854775808 ≤ x)) (wR mode (decide (9223372036854775808 ≤ x)) (x % 9223372036854775808))), .int .i64 (whFl x), .int .i64 0]) ∧ Below w.heap.size w w' := by
  have hx2 := sign_of x hx
  have hc : canonOf x = x := by unfold canonOf; rw [if_neg (by omega)]
  unfold wR whFl
  rw [← hx2]
  by_cases hi : x % 9223372036854775808 = 9218868437227405312
  · rw [if_pos hi, if_pos (Or.inl hi), ← hx2]
    have := Whole_plain x mode w hx hm1 hm2 (Or.inl (exp_inf x (Nat.le_of_eq hi.symm))) hT hs
    rw [hc] at this
    exact this
  · rw [if_neg hi]
    obtain ⟨v1, v2, v3, v4, v5⟩ := parts_val x (by omega)
    by_cases h0 : x % 9223372036854775808 = 0 ∨ 0 ≤ pExp x
    · rw [if_pos h0, if_pos (Or.inr h0), ← hx2]
      have := Whole_plain x mode w hx hm1 hm2 (Or.inr (by
        rcases h0 with h0 | h0
        · unfold pExp; rw [if_pos (Or.inr (v4.2 h0))]; exact Int.le_refl _
        · exact h0)) hT hs
      rw [hc] at this
      exact this
    · rw [if_neg h0, if_neg (fun c => by rcases c with c | c; · exact hi c
                                         · exact h0 c)]
      obtain ⟨p1, p2, p3, p4, p5, p6⟩ := v5 (fun c => h0 (Or.inl (v4.1 c)))
      have h53 : (2 : Nat) ^ 53 = 9007199254740992 := by decide
      have hN : pNeg x = decide (9223372036854775808 ≤ x) := by unfold pNeg; rw [if_neg v1, v2]
      have hE : pErr x = 0 := by unfold pErr; rw [if_neg v1]
      have := Whole_more x mode w hx hm1 hm2 hE (by omega) (by omega) p1 (by rw [← h53]; exact Nat.lt_of_lt_of_le (bitLen_hi _) (Nat.pow_le_pow_right (by decide) p4)) hT hs
      rw [hN] at this
      exact this

theorem Int8_full (x : Nat) (mode : Int) (w : World) (hx : x < 18446744073709551616) (hn : x % 9223372036854775808 ≤ 9218868437227405312) (hm1 : 0 ≤ mode) (hm2 : mode ≤ 4) (hT : Tab w) (hs : 1 < w.heap.size) :
    Calls Tryz.prog 18 #[.float .f64 x, .int .i64 8, .int .i64 mode] w fun r w' => r = .returned (.tuple #[.int .i64 (clI (-128) 127 tI (sv (signN (decide (9223372036854775808 ≤ x)) (wR mode (decide (9223372036854775808 ≤ x)) (x % 9223372036854775808))))), .int .i64 (clF (-128) 127 tI (sv (signN (decide (9223372036854775808 ≤ x)) (wR mode (decide (9223372036854775808 ≤ x)) (x % 9223372036854775808)))) (whFl x)), .int .i64 0]) ∧ Below w.heap.size w w' := by
  have hW := Whole_full x mode w hx hn hm1 hm2 hT hs
  obtain ⟨Y, hY⟩ : ∃ Y, whFl x = Y := ⟨_, rfl⟩
  rw [hY] at hW ⊢
  obtain ⟨s, hse⟩ : ∃ s, decide (9223372036854775808 ≤ x) = s := ⟨_, rfl⟩
  obtain ⟨r, hre⟩ : ∃ r, x % 9223372036854775808 = r := ⟨_, rfl⟩
  rw [hse, hre] at hW ⊢
  rw [hre] at hn
  have hl := wR_le mode s r hn
  obtain ⟨a1, a2, a3⟩ := signN_mod s (wR mode s r) (by omega)
  have hfn := nv_fn8
  have s1 : sv 13862079653046386688 = -(nv 4638707616191610880 : Int) := sv_sign true 4638707616191610880 (by decide)
  have s2 : sv 4638707616191610880 = (nv 4638707616191610880 : Int) := sv_sign false 4638707616191610880 (by decide)
  have o1 := (order_lt_iff (signN s (wR mode s r)) 13862079653046386688 a3 (by decide) (by omega) (by decide)).1
  have o2 := (order_lt_iff (signN s (wR mode s r)) 4638707616191610880 a3 (by decide) (by omega) (by decide)).2
  have t2' : (nv 4638707616191610880 : Int) = (127 + 1) * tI := cast_tI _ 128 _ hfn (by decide)
  have t1 : sv 13862079653046386688 = (-128) * tI := by rw [s1, t2', ← Int.neg_mul, show (-(127 + 1) : Int) = -128 by decide]
  have t2 : sv 4638707616191610880 = (127 + 1) * tI := s2.trans t2'
  rw [t1] at o1
  rw [t2] at o2
  unfold clI clF
  by_cases c1 : sv (signN s (wR mode s r)) < (-128) * tI
  · rw [if_pos c1, if_pos c1]
    rw [decide_eq_true c1] at o1
    exact Int8_low x _ mode Y w a3 (by omega) o1 hW
  · rw [if_neg c1, if_neg c1]
    rw [decide_eq_false c1] at o1
    by_cases c2 : (127 + 1) * tI ≤ sv (signN s (wR mode s r))
    · rw [if_pos c2, if_pos c2]
      rw [decide_eq_true c2] at o2
      exact Int8_high x _ mode Y w a3 (by omega) o1 o2 hW
    · rw [if_neg c2, if_neg c2]
      rw [decide_eq_false c2] at o2
      have hcv := whole_in .i64 (-128) 127 mode s r 4638707616191610880 (Or.inl rfl) hn (by decide) t2' (by decide) (by decide) (by decide) c1 c2
      exact Int8_in x _ mode Y _ w a3 (by omega) o1 o2 hcv hW
theorem Uint8_full (x : Nat) (mode : Int) (w : World) (hx : x < 18446744073709551616) (hn : x % 9223372036854775808 ≤ 9218868437227405312) (hm1 : 0 ≤ mode) (hm2 : mode ≤ 4) (hT : Tab w) (hs : 1 < w.heap.size) :
    Calls Tryz.prog 20 #[.float .f64 x, .int .i64 8, .int .i64 mode] w fun r w' => r = .returned (.tuple #[.int .u64 (clI 0 255 tI (sv (signN (decide (9223372036854775808 ≤ x)) (wR mode (decide (9223372036854775808 ≤ x)) (x % 9223372036854775808))))), .int .i64 (clF 0 255 tI (sv (signN (decide (9223372036854775808 ≤ x)) (wR mode (decide (9223372036854775808 ≤ x)) (x % 9223372036854775808)))) (whFl x)), .int .i64 0]) ∧ Below w.heap.size w w' := by
  have hW := Whole_full x mode w hx hn hm1 hm2 hT hs
  obtain ⟨Y, hY⟩ : ∃ Y, whFl x = Y := ⟨_, rfl⟩
  rw [hY] at hW ⊢
  obtain ⟨s, hse⟩ : ∃ s, decide (9223372036854775808 ≤ x) = s := ⟨_, rfl⟩
  obtain ⟨r, hre⟩ : ∃ r, x % 9223372036854775808 = r := ⟨_, rfl⟩
  rw [hse, hre] at hW ⊢
  rw [hre] at hn
  have hl := wR_le mode s r hn
  obtain ⟨a1, a2, a3⟩ := signN_mod s (wR mode s r) (by omega)
  have hfn := nv_f28
  have s2 : sv 4643211215818981376 = (nv 4643211215818981376 : Int) := sv_sign false 4643211215818981376 (by decide)
  have o1 := (order_lt_iff (signN s (wR mode s r)) 0 a3 (by decide) (by omega) (by decide)).1
  have o2 := (order_lt_iff (signN s (wR mode s r)) 4643211215818981376 a3 (by decide) (by omega) (by decide)).2
  have t1 : sv 0 = 0 * tI := by rw [sv_zero, Int.zero_mul]
  have t2' : (nv 4643211215818981376 : Int) = (255 + 1) * tI := cast_tI _ 256 _ hfn (by decide)
  have t2 : sv 4643211215818981376 = (255 + 1) * tI := s2.trans t2'
  rw [t1] at o1
  rw [t2] at o2
  unfold clI clF
  by_cases c1 : sv (signN s (wR mode s r)) < 0 * tI
  · rw [if_pos c1, if_pos c1]
    rw [decide_eq_true c1] at o1
    exact Uint8_low x _ mode Y w a3 (by omega) o1 hW
  · rw [if_neg c1, if_neg c1]
    rw [decide_eq_false c1] at o1
    by_cases c2 : (255 + 1) * tI ≤ sv (signN s (wR mode s r))
    · rw [if_pos c2, if_pos c2]
      rw [decide_eq_true c2] at o2
      exact Uint8_high x _ mode Y w a3 (by omega) o1 o2 hW
    · rw [if_neg c2, if_neg c2]
      rw [decide_eq_false c2] at o2
      have hcv := whole_in .u64 0 255 mode s r 4643211215818981376 (Or.inr rfl) hn (by decide) t2' (by decide) (by decide) (by decide) c1 c2
      exact Uint8_in x _ mode Y _ w a3 (by omega) o1 o2 hcv hW
theorem Int16_full (x : Nat) (mode : Int) (w : World) (hx : x < 18446744073709551616) (hn : x % 9223372036854775808 ≤ 9218868437227405312) (hm1 : 0 ≤ mode) (hm2 : mode ≤ 4) (hT : Tab w) (hs : 1 < w.heap.size) :
    Calls Tryz.prog 18 #[.float .f64 x, .int .i64 16, .int .i64 mode] w fun r w' => r = .returned (.tuple #[.int .i64 (clI (-32768) 32767 tI (sv (signN (decide (9223372036854775808 ≤ x)) (wR mode (decide (9223372036854775808 ≤ x)) (x % 9223372036854775808))))), .int .i64 (clF (-32768) 32767 tI (sv (signN (decide (9223372036854775808 ≤ x)) (wR mode (decide (9223372036854775808 ≤ x)) (x % 9223372036854775808)))) (whFl x)), .int .i64 0]) ∧ Below w.heap.size w w' := by
  have hW := Whole_full x mode w hx hn hm1 hm2 hT hs
  obtain ⟨Y, hY⟩ : ∃ Y, whFl x = Y := ⟨_, rfl⟩
  rw [hY] at hW ⊢
  obtain ⟨s, hse⟩ : ∃ s, decide (9223372036854775808 ≤ x) = s := ⟨_, rfl⟩
  obtain ⟨r, hre⟩ : ∃ r, x % 9223372036854775808 = r := ⟨_, rfl⟩
  rw [hse, hre] at hW ⊢
  rw [hre] at hn
  have hl := wR_le mode s r hn
  obtain ⟨a1, a2, a3⟩ := signN_mod s (wR mode s r) (by omega)
  have hfn := nv_fn16
  have s1 : sv 13898108450065350656 = -(nv 4674736413210574848 : Int) := sv_sign true 4674736413210574848 (by decide)
  have s2 : sv 4674736413210574848 = (nv 4674736413210574848 : Int) := sv_sign false 4674736413210574848 (by decide)
  have o1 := (order_lt_iff (signN s (wR mode s r)) 13898108450065350656 a3 (by decide) (by omega) (by decide)).1
  have o2 := (order_lt_iff (signN s (wR mode s r)) 4674736413210574848 a3 (by decide) (by omega) (by decide)).2
  have t2' : (nv 4674736413210574848 : Int) = (32767 + 1) * tI := cast_tI _ 32768 _ hfn (by decide)
  have t1 : sv 13898108450065350656 = (-32768) * tI := by rw [s1, t2', ← Int.neg_mul, show (-(32767 + 1) : Int) = -32768 by decide]
  have t2 : sv 4674736413210574848 = (32767 + 1) * tI := s2.trans t2'
  rw [t1] at o1
  rw [t2] at o2
  unfold clI clF
  by_cases c1 : sv (signN s (wR mode s r)) < (-32768) * tI
  · rw [if_pos c1, if_pos c1]
    rw [decide_eq_true c1] at o1
    exact Int16_low x _ mode Y w a3 (by omega) o1 hW
  · rw [if_neg c1, if_neg c1]
    rw [decide_eq_false c1] at o1
    by_cases c2 : (32767 + 1) * tI ≤ sv (signN s (wR mode s r))
    · rw [if_pos c2, if_pos c2]
      rw [decide_eq_true c2] at o2
      exact Int16_high x _ mode Y w a3 (by omega) o1 o2 hW
    · rw [if_neg c2, if_neg c2]
      rw [decide_eq_false c2] at o2
      have hcv := whole_in .i64 (-32768) 32767 mode s r 4674736413210574848 (Or.inl rfl) hn (by decide) t2' (by decide) (by decide) (by decide) c1 c2
      exact Int16_in x _ mode Y _ w a3 (by omega) o1 o2 hcv hW
theorem Uint16_full (x : Nat) (mode : Int) (w : World) (hx : x < 18446744073709551616) (hn : x % 9223372036854775808 ≤ 9218868437227405312) (hm1 : 0 ≤ mode) (hm2 : mode ≤ 4) (hT : Tab w) (hs : 1 < w.heap.size) :
    Calls Tryz.prog 20 #[.float .f64 x, .int .i64 16, .int .i64 mode] w fun r w' => r = .returned (.tuple #[.int .u64 (clI 0 65535 tI (sv (signN (decide (9223372036854775808 ≤ x)) (wR mode (decide (9223372036854775808 ≤ x)) (x % 9223372036854775808))))), .int .i64 (clF 0 65535 tI (sv (signN (decide (9223372036854775808 ≤ x)) (wR mode (decide (9223372036854775808 ≤ x)) (x % 9223372036854775808)))) (whFl x)), .int .i64 0]) ∧ Below w.heap.size w w' := by
  have hW := Whole_full x mode w hx hn hm1 hm2 hT hs
  obtain ⟨Y, hY⟩ : ∃ Y, whFl x = Y := ⟨_, rfl⟩
  rw [hY] at hW ⊢
  obtain ⟨s, hse⟩ : ∃ s, decide (9223372036854775808 ≤ x) = s := ⟨_, rfl⟩
  obtain ⟨r, hre⟩ : ∃ r, x % 9223372036854775808 = r := ⟨_, rfl⟩
  rw [hse, hre] at hW ⊢
  rw [hre] at hn
  have hl := wR_le mode s r hn
  obtain ⟨a1, a2, a3⟩ := signN_mod s (wR mode s r) (by omega)
  have hfn := nv_f216
  have s2 : sv 4679240012837945344 = (nv 4679240012837945344 : Int) := sv_sign false 4679240012837945344 (by decide)
  have o1 := (order_lt_iff (signN s (wR mode s r)) 0 a3 (by decide) (by omega) (by decide)).1
  have o2 := (order_lt_iff (signN s (wR mode s r)) 4679240012837945344 a3 (by decide) (by omega) (by decide)).2
  have t1 : sv 0 = 0 * tI := by rw [sv_zero, Int.zero_mul]
  have t2' : (nv 4679240012837945344 : Int) = (65535 + 1) * tI := cast_tI _ 65536 _ hfn (by decide)
  have t2 : sv 4679240012837945344 = (65535 + 1) * tI := s2.trans t2'
  rw [t1] at o1
  rw [t2] at o2
  unfold clI clF
  by_cases c1 : sv (signN s (wR mode s r)) < 0 * tI
  · rw [if_pos c1, if_pos c1]
    rw [decide_eq_true c1] at o1
    exact Uint16_low x _ mode Y w a3 (by omega) o1 hW
  · rw [if_neg c1, if_neg c1]
    rw [decide_eq_false c1] at o1
    by_cases c2 : (65535 + 1) * tI ≤ sv (signN s (wR mode s r))
    · rw [if_pos c2, if_pos c2]
      rw [decide_eq_true c2] at o2
      exact Uint16_high x _ mode Y w a3 (by omega) o1 o2 hW
    · rw [if_neg c2, if_neg c2]
      rw [decide_eq_false c2] at o2
      have hcv := whole_in .u64 0 65535 mode s r 4679240012837945344 (Or.inr rfl) hn (by decide) t2' (by decide) (by decide) (by decide) c1 c2
      exact Uint16_in x _ mode Y _ w a3 (by omega) o1 o2 hcv hW
theorem Int32_full (x : Nat) (mode : Int) (w : World) (hx : x < 18446744073709551616) (hn : x % 9223372036854775808 ≤ 9218868437227405312) (hm1 : 0 ≤ mode) (hm2 : mode ≤ 4) (hT : Tab w) (hs : 1 < w.heap.size) :
    Calls Tryz.prog 18 #[.float .f64 x, .int .i64 32, .int .i64 mode] w fun r w' => r = .returned (.tuple #[.int .i64 (clI (-2147483648) 2147483647 tI (sv (signN (decide (9223372036854775808 ≤ x)) (wR mode (decide (9223372036854775808 ≤ x)) (x % 9223372036854775808))))), .int .i64 (clF (-2147483648) 2147483647 tI (sv (signN (decide (9223372036854775808 ≤ x)) (wR mode (decide (9223372036854775808 ≤ x)) (x % 9223372036854775808)))) (whFl x)), .int .i64 0]) ∧ Below w.heap.size w w' := by
  have hW := Whole_full x mode w hx hn hm1 hm2 hT hs
  obtain ⟨Y, hY⟩ : ∃ Y, whFl x = Y := ⟨_, rfl⟩
  rw [hY] at hW ⊢
  obtain ⟨s, hse⟩ : ∃ s, decide (9223372036854775808 ≤ x) = s := ⟨_, rfl⟩
  obtain ⟨r, hre⟩ : ∃ r, x % 9223372036854775808 = r := ⟨_, rfl⟩
  rw [hse, hre] at hW ⊢
  rw [hre] at hn
  have hl := wR_le mode s r hn
  obtain ⟨a1, a2, a3⟩ := signN_mod s (wR mode s r) (by omega)
  have hfn := nv_fn32
  have s1 : sv 13970166044103278592 = -(nv 4746794007248502784 : Int) := sv_sign true 4746794007248502784 (by decide)
  have s2 : sv 4746794007248502784 = (nv 4746794007248502784 : Int) := sv_sign false 4746794007248502784 (by decide)
  have o1 := (order_lt_iff (signN s (wR mode s r)) 13970166044103278592 a3 (by decide) (by omega) (by decide)).1
  have o2 := (order_lt_iff (signN s (wR mode s r)) 4746794007248502784 a3 (by decide) (by omega) (by decide)).2
  have t2' : (nv 4746794007248502784 : Int) = (2147483647 + 1) * tI := cast_tI _ 2147483648 _ hfn (by decide)
  have t1 : sv 13970166044103278592 = (-2147483648) * tI := by rw [s1, t2', ← Int.neg_mul, show (-(2147483647 + 1) : Int) = -2147483648 by decide]
  have t2 : sv 4746794007248502784 = (2147483647 + 1) * tI := s2.trans t2'
  rw [t1] at o1
  rw [t2] at o2
  unfold clI clF
  by_cases c1 : sv (signN s (wR mode s r)) < (-2147483648) * tI
  · rw [if_pos c1, if_pos c1]
    rw [decide_eq_true c1] at o1
    exact Int32_low x _ mode Y w a3 (by omega) o1 hW
  · rw [if_neg c1, if_neg c1]
    rw [decide_eq_false c1] at o1
    by_cases c2 : (2147483647 + 1) * tI ≤ sv (signN s (wR mode s r))
    · rw [if_pos c2, if_pos c2]
      rw [decide_eq_true c2] at o2
      exact Int32_high x _ mode Y w a3 (by omega) o1 o2 hW
    · rw [if_neg c2, if_neg c2]
      rw [decide_eq_false c2] at o2
      have hcv := whole_in .i64 (-2147483648) 2147483647 mode s r 4746794007248502784 (Or.inl rfl) hn (by decide) t2' (by decide) (by decide) (by decide) c1 c2
      exact Int32_in x _ mode Y _ w a3 (by omega) o1 o2 hcv hW
theorem Uint32_full (x : Nat) (mode : Int) (w : World) (hx : x < 18446744073709551616) (hn : x % 9223372036854775808 ≤ 9218868437227405312) (hm1 : 0 ≤ mode) (hm2 : mode ≤ 4) (hT : Tab w) (hs : 1 < w.heap.size) :
    Calls Tryz.prog 20 #[.float .f64 x, .int .i64 32, .int .i64 mode] w fun r w' => r = .returned (.tuple #[.int .u64 (clI 0 4294967295 tI (sv (signN (decide (9223372036854775808 ≤ x)) (wR mode (decide (9223372036854775808 ≤ x)) (x % 9223372036854775808))))), .int .i64 (clF 0 4294967295 tI (sv (signN (decide (9223372036854775808 ≤ x)) (wR mode (decide (9223372036854775808 ≤ x)) (x % 9223372036854775808)))) (whFl x)), .int .i64 0]) ∧ Below w.heap.size w w' := by
  have hW := Whole_full x mode w hx hn hm1 hm2 hT hs
  obtain ⟨Y, hY⟩ : ∃ Y, whFl x = Y := ⟨_, rfl⟩
  rw [hY] at hW ⊢
  obtain ⟨s, hse⟩ : ∃ s, decide (9223372036854775808 ≤ x) = s := ⟨_, rfl⟩
  obtain ⟨r, hre⟩ : ∃ r, x % 9223372036854775808 = r := ⟨_, rfl⟩
  rw [hse, hre] at hW ⊢
  rw [hre] at hn
  have hl := wR_le mode s r hn
  obtain ⟨a1, a2, a3⟩ := signN_mod s (wR mode s r) (by omega)
  have hfn := nv_f232
  have s2 : sv 4751297606875873280 = (nv 4751297606875873280 : Int) := sv_sign false 4751297606875873280 (by decide)
  have o1 := (order_lt_iff (signN s (wR mode s r)) 0 a3 (by decide) (by omega) (by decide)).1
  have o2 := (order_lt_iff (signN s (wR mode s r)) 4751297606875873280 a3 (by decide) (by omega) (by decide)).2
  have t1 : sv 0 = 0 * tI := by rw [sv_zero, Int.zero_mul]
  have t2' : (nv 4751297606875873280 : Int) = (4294967295 + 1) * tI := cast_tI _ 4294967296 _ hfn (by decide)
  have t2 : sv 4751297606875873280 = (4294967295 + 1) * tI := s2.trans t2'
  rw [t1] at o1
  rw [t2] at o2
  unfold clI clF
  by_cases c1 : sv (signN s (wR mode s r)) < 0 * tI
  · rw [if_pos c1, if_pos c1]
    rw [decide_eq_true c1] at o1
    exact Uint32_low x _ mode Y w a3 (by omega) o1 hW
  · rw [if_neg c1, if_neg c1]
    rw [decide_eq_false c1] at o1
    by_cases c2 : (4294967295 + 1) * tI ≤ sv (signN s (wR mode s r))
    · rw [if_pos c2, if_pos c2]
      rw [decide_eq_true c2] at o2
      exact Uint32_high x _ mode Y w a3 (by omega) o1 o2 hW
    · rw [if_neg c2, if_neg c2]
      rw [decide_eq_false c2] at o2
      have hcv := whole_in .u64 0 4294967295 mode s r 4751297606875873280 (Or.inr rfl) hn (by decide) t2' (by decide) (by decide) (by decide) c1 c2
      exact Uint32_in x _ mode Y _ w a3 (by omega) o1 o2 hcv hW
theorem Int64_full (x : Nat) (mode : Int) (w : World) (hx : x < 18446744073709551616) (hn : x % 9223372036854775808 ≤ 9218868437227405312) (hm1 : 0 ≤ mode) (hm2 : mode ≤ 4) (hT : Tab w) (hs : 1 < w.heap.size) :
    Calls Tryz.prog 18 #[.float .f64 x, .int .i64 64, .int .i64 mode] w fun r w' => r = .returned (.tuple #[.int .i64 (clI (-9223372036854775808) 9223372036854775807 tI (sv (signN (decide (9223372036854775808 ≤ x)) (wR mode (decide (9223372036854775808 ≤ x)) (x % 9223372036854775808))))), .int .i64 (clF (-9223372036854775808) 9223372036854775807 tI (sv (signN (decide (9223372036854775808 ≤ x)) (wR mode (decide (9223372036854775808 ≤ x)) (x % 9223372036854775808)))) (whFl x)), .int .i64 0]) ∧ Below w.heap.size w w' := by
  have hW := Whole_full x mode w hx hn hm1 hm2 hT hs
  obtain ⟨Y, hY⟩ : ∃ Y, whFl x = Y := ⟨_, rfl⟩
  rw [hY] at hW ⊢
  obtain ⟨s, hse⟩ : ∃ s, decide (9223372036854775808 ≤ x) = s := ⟨_, rfl⟩
  obtain ⟨r, hre⟩ : ∃ r, x % 9223372036854775808 = r := ⟨_, rfl⟩
  rw [hse, hre] at hW ⊢
  rw [hre] at hn
  have hl := wR_le mode s r hn
  obtain ⟨a1, a2, a3⟩ := signN_mod s (wR mode s r) (by omega)
  have hfn := nv_fn64
  have s1 : sv 14114281232179134464 = -(nv 4890909195324358656 : Int) := sv_sign true 4890909195324358656 (by decide)
  have s2 : sv 4890909195324358656 = (nv 4890909195324358656 : Int) := sv_sign false 4890909195324358656 (by decide)
  have o1 := (order_lt_iff (signN s (wR mode s r)) 14114281232179134464 a3 (by decide) (by omega) (by decide)).1
  have o2 := (order_lt_iff (signN s (wR mode s r)) 4890909195324358656 a3 (by decide) (by omega) (by decide)).2
  have t2' : (nv 4890909195324358656 : Int) = (9223372036854775807 + 1) * tI := cast_tI _ 9223372036854775808 _ hfn (by decide)
  have t1 : sv 14114281232179134464 = (-9223372036854775808) * tI := by rw [s1, t2', ← Int.neg_mul, show (-(9223372036854775807 + 1) : Int) = -9223372036854775808 by decide]
  have t2 : sv 4890909195324358656 = (9223372036854775807 + 1) * tI := s2.trans t2'
  rw [t1] at o1
  rw [t2] at o2
  unfold clI clF
  by_cases c1 : sv (signN s (wR mode s r)) < (-9223372036854775808) * tI
  · rw [if_pos c1, if_pos c1]
    rw [decide_eq_true c1] at o1
    exact Int64_low x _ mode Y w a3 (by omega) o1 hW
  · rw [if_neg c1, if_neg c1]
    rw [decide_eq_false c1] at o1
    by_cases c2 : (9223372036854775807 + 1) * tI ≤ sv (signN s (wR mode s r))
    · rw [if_pos c2, if_pos c2]
      rw [decide_eq_true c2] at o2
      exact Int64_high x _ mode Y w a3 (by omega) o1 o2 hW
    · rw [if_neg c2, if_neg c2]
      rw [decide_eq_false c2] at o2
      have hcv := whole_in .i64 (-9223372036854775808) 9223372036854775807 mode s r 4890909195324358656 (Or.inl rfl) hn (by decide) t2' (by decide) (by decide) (by decide) c1 c2
      exact Int64_in x _ mode Y _ w a3 (by omega) o1 o2 hcv hW
theorem Uint64_full (x : Nat) (mode : Int) (w : World) (hx : x < 18446744073709551616) (hn : x % 9223372036854775808 ≤ 9218868437227405312) (hm1 : 0 ≤ mode) (hm2 : mode ≤ 4) (hT : Tab w) (hs : 1 < w.heap.size) :
    Calls Tryz.prog 20 #[.float .f64 x, .int .i64 64, .int .i64 mode] w fun r w' => r = .returned (.tuple #[.int .u64 (clI 0 18446744073709551615 tI (sv (signN (decide (9223372036854775808 ≤ x)) (wR mode (decide (9223372036854775808 ≤ x)) (x % 9223372036854775808))))), .int .i64 (clF 0 18446744073709551615 tI (sv (signN (decide (9223372036854775808 ≤ x)) (wR mode (decide (9223372036854775808 ≤ x)) (x % 9223372036854775808)))) (whFl x)), .int .i64 0]) ∧ Below w.heap.size w w' := by
  have hW := Whole_full x mode w hx hn hm1 hm2 hT hs
  obtain ⟨Y, hY⟩ : ∃ Y, whFl x = Y := ⟨_, rfl⟩
  rw [hY] at hW ⊢
  obtain ⟨s, hse⟩ : ∃ s, decide (9223372036854775808 ≤ x) = s := ⟨_, rfl⟩
  obtain ⟨r, hre⟩ : ∃ r, x % 9223372036854775808 = r := ⟨_, rfl⟩
  rw [hse, hre] at hW ⊢
  rw [hre] at hn
  have hl := wR_le mode s r hn
  obtain ⟨a1, a2, a3⟩ := signN_mod s (wR mode s r) (by omega)
  have hfn := nv_f264
  have s2 : sv 4895412794951729152 = (nv 4895412794951729152 : Int) := sv_sign false 4895412794951729152 (by decide)
  have o1 := (order_lt_iff (signN s (wR mode s r)) 0 a3 (by decide) (by omega) (by decide)).1
  have o2 := (order_lt_iff (signN s (wR mode s r)) 4895412794951729152 a3 (by decide) (by omega) (by decide)).2
  have t1 : sv 0 = 0 * tI := by rw [sv_zero, Int.zero_mul]
  have t2' : (nv 4895412794951729152 : Int) = (18446744073709551615 + 1) * tI := cast_tI _ 18446744073709551616 _ hfn (by decide)
  have t2 : sv 4895412794951729152 = (18446744073709551615 + 1) * tI := s2.trans t2'
  rw [t1] at o1
  rw [t2] at o2
  unfold clI clF
  by_cases c1 : sv (signN s (wR mode s r)) < 0 * tI
  · rw [if_pos c1, if_pos c1]
    rw [decide_eq_true c1] at o1
    exact Uint64_low x _ mode Y w a3 (by omega) o1 hW
  · rw [if_neg c1, if_neg c1]
    rw [decide_eq_false c1] at o1
    by_cases c2 : (18446744073709551615 + 1) * tI ≤ sv (signN s (wR mode s r))
    · rw [if_pos c2, if_pos c2]
      rw [decide_eq_true c2] at o2
      exact Uint64_high x _ mode Y w a3 (by omega) o1 o2 hW
    · rw [if_neg c2, if_neg c2]
      rw [decide_eq_false c2] at o2
      have hcv := whole_in .u64 0 18446744073709551615 mode s r 4895412794951729152 (Or.inr rfl) hn (by decide) t2' (by decide) (by decide) (by decide) c1 c2
      exact Uint64_in x _ mode Y _ w a3 (by omega) o1 o2 hcv hW
end Go.Proofs.YtpgcelbgmpfliaaGreatDoor
