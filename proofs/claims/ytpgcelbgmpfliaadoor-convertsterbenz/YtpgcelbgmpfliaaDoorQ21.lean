
/- What convert's known, grows, cut and stepsOf do. -/
import Derived.Test.YtpgcelbgmpfliaaDoorQ20
import Derived.Test.YtpgcelbgmpfliaaDoorQ14
import Derived.Test.YtpgcelbgmpfliaaDoorQ15
import Derived.Test.YtpgcelbgmpfliaaDoorQ16
namespace Go.Proofs.YtpgcelbgmpfliaaDoor
open Go Go.RowKit Go.IntWalk

theorem nv_inj {r s : Nat} (h : nv r = nv s) : r = s := by
  rcases Nat.lt_trichotomy r s with c | c | c
  · have := nv_lt c; omega
  · exact c
  · have := nv_lt c; omega
theorem nv_inj32 {r s : Nat} (h : nv32 r = nv32 s) : r = s := by
  rcases Nat.lt_trichotomy r s with c | c | c
  · have := nv_lt32 c; omega
  · exact c
  · have := nv_lt32 c; omega
theorem bitLen_mul_pow (m k : Nat) (h : m ≠ 0) : bitLen (m * 2 ^ k) = bitLen m + k := by
  unfold bitLen
  rw [if_neg h, if_neg (Nat.mul_ne_zero h (Nat.pos_iff_ne_zero.1 (Nat.two_pow_pos k))), log2_mul_pow m k h]
  omega
theorem bitLen_mono {a b : Nat} (h : a ≤ b) : bitLen a ≤ bitLen b := bitLen_le a _ (Nat.lt_of_le_of_lt h (bitLen_hi b))
theorem restN_zero {m s : Nat} : restN m s = 0 ↔ m % 2 ^ s = 0 := by
  unfold restN
  constructor
  · intro h
    apply Classical.byContradiction
    intro hc
    rw [if_neg hc] at h
    split at h
    · omega
    · split at h <;> omega
  · intro h; rw [if_pos h]
/-- Nothing is left over just if so many steps are what there was. -/
theorem step_value (m : Nat) (sh mode : Int) (neg : Bool) : cutR m sh = 0 ↔ stepQ m sh mode neg * 2 ^ sh.toNat = m * 2 ^ (-sh).toNat := by
  unfold stepQ
  by_cases hs : sh ≤ 0
  · have hr : cutR m sh = 0 := by unfold cutR; rw [if_pos hs]
    have hq : cutQ m sh = m * 2 ^ (-sh).toNat := by unfold cutQ; rw [if_pos hs]
    have e : sh.toNat = 0 := by omega
    rw [hr, hq, e]
    simp
  · have hq : cutQ m sh = m / 2 ^ sh.toNat := by unfold cutQ; rw [if_neg hs]
    have hr : cutR m sh = restN m sh.toNat := by unfold cutR; rw [if_neg hs]
    have e : (-sh).toNat = 0 := by omega
    have hd := Nat.div_add_mod m (2 ^ sh.toNat)
    have hl := Nat.mod_lt m (Nat.two_pow_pos sh.toNat)
    rw [hr, hq, e, Nat.pow_zero, Nat.mul_one]
    constructor
    · intro h
      rw [if_neg (fun c => c.1 h)]
      rw [restN_zero] at h
      rw [Nat.mul_comm, Nat.add_zero]
      omega
    · intro h
      rw [restN_zero]
      have h2 : (m / 2 ^ sh.toNat) * 2 ^ sh.toNat = 2 ^ sh.toNat * (m / 2 ^ sh.toNat) := Nat.mul_comm _ _
      split at h
      · rw [Nat.add_mul, Nat.one_mul] at h
        omega
      · rw [Nat.add_zero] at h
        omega
theorem flag_zero (P L H : Int) (m : Nat) (e mode : Int) (neg : Bool) : rFlag P L H m e mode neg = 0 ↔ ¬ rOver P L H m e mode neg ∧ cutR m (rUnit P L m e - e) = 0 := by
  unfold rFlag
  by_cases h : rOver P L H m e mode neg
  · rw [if_pos h]; exact ⟨fun c => by omega, fun c => absurd h c.1⟩
  · rw [if_neg h]
    by_cases h2 : cutR m (rUnit P L m e - e) = 0
    · rw [if_pos h2]; exact ⟨fun _ => ⟨h, h2⟩, fun _ => rfl⟩
    · rw [if_neg h2]
      refine ⟨fun c => ?_, fun c => absurd c.2 h2⟩
      split at c <;> omega
/-- What has room in the digits, from the least step on, is not rounded. -/
theorem fits_exact (P L H : Int) (m : Nat) (e mode : Int) (neg : Bool) (h0 : m ≠ 0) (hfit : (bitLen m : Int) ≤ P) (hlow : L - P + 1 ≤ e) (htop : e + (bitLen m : Int) - 1 ≤ H) :
    rFlag P L H m e mode neg = 0 ∧ ¬ rOver P L H m e mode neg ∧ rUnit P L m e ≤ e ∧ rSteps P L m e mode neg = m * 2 ^ (e - rUnit P L m e).toNat := by
  have hu : rUnit P L m e - e ≤ 0 := by unfold rUnit rTop; omega
  have hr : cutR m (rUnit P L m e - e) = 0 := by unfold cutR; rw [if_pos hu]
  have hs : rSteps P L m e mode neg = m * 2 ^ (e - rUnit P L m e).toNat := by
    unfold rSteps stepQ
    rw [if_neg (fun c => c.1 hr)]
    unfold cutQ
    have e1 : (-(rUnit P L m e - e)).toNat = (e - rUnit P L m e).toNat := by omega
    rw [if_pos hu, Nat.add_zero, e1]
  have ho : ¬ rOver P L H m e mode neg := by
    unfold rOver
    rw [hs, bitLen_mul_pow _ _ h0]
    omega
  exact ⟨(flag_zero P L H m e mode neg).2 ⟨ho, hr⟩, ho, by omega, hs⟩

/-- A number's value, by its parts. -/
theorem parts_val (x : Nat) (hf : x % 9223372036854775808 < 9218868437227405312) : expOf x ≠ 2047 ∧ negOf x = decide (9223372036854775808 ≤ x) ∧ canonOf x = x ∧ (mantOf x = 0 ↔ x % 9223372036854775808 = 0) ∧ (mantOf x ≠ 0 → pMant x ≠ 0 ∧ -1074 ≤ pExp x ∧ nv (x % 9223372036854775808) = pMant x * 2 ^ (pExp x + 1074).toNat ∧ bitLen (pMant x) ≤ 53 ∧ pExp x + (bitLen (pMant x) : Int) - 1 ≤ 1023 ∧ pMant x < 18446744073709551616) := by
  have hc : canonOf x = x := by unfold canonOf; rw [if_neg (by omega)]
  have he : expOf x = x % 9223372036854775808 / 4503599627370496 := by unfold expOf; rw [hc]; omega
  have hfr : fracOf x = x % 9223372036854775808 % 4503599627370496 := by unfold fracOf; rw [hc]; omega
  have hne : expOf x ≠ 2047 := by omega
  refine ⟨hne, by unfold negOf; rw [hc], hc, ?_, ?_⟩
  · unfold mantOf
    split <;> omega
  · intro hm
    have hml := mant_lt x
    have hm64 : mantOf x < 18446744073709551616 := by omega
    obtain ⟨q, hq, hmq⟩ := odd_spec _ hm hm64
    have es : oddOf (mantOf x) * 2 ^ tzOf (mantOf x) = mantOf x := by rw [hq, Nat.mul_comm]; exact hmq.symm
    have hn : nv (x % 9223372036854775808) = mantOf x * 2 ^ (max (expOf x) 1 - 1) := by
      unfold nv mantOf
      rw [hfr, he]
      by_cases hs : x % 9223372036854775808 < 4503599627370496
      · have e0 : x % 9223372036854775808 / 4503599627370496 = 0 := by omega
        rw [if_pos hs, e0, if_neg (by omega), Nat.mod_eq_of_lt hs]
        simp
      · have e0 : max (x % 9223372036854775808 / 4503599627370496) 1 = x % 9223372036854775808 / 4503599627370496 := by omega
        rw [if_neg hs, if_pos (by omega), e0, Nat.add_comm]
    have hl1 := tz_len _ hm hm64
    have hbl : bitLen (mantOf x) ≤ 53 := bitLen_le _ 53 (by simpa using hml)
    have hbo : bitLen (oddOf (mantOf x)) = lenOf (mantOf x) := rfl
    unfold pMant pExp
    rw [if_neg hne, if_neg (by omega), hn, hbo]
    refine ⟨by omega, by omega, ?_, by omega, ?_, by have := odd_le (mantOf x); omega⟩
    · have e1 : (max (expOf x : Int) 1 - 1075 + (tzOf (mantOf x) : Int) + 1074).toNat = tzOf (mantOf x) + (max (expOf x) 1 - 1) := by omega
      rw [e1, Nat.pow_add, ← Nat.mul_assoc, es]
    · by_cases h0 : expOf x = 0
      · rw [h0]; omega
      · omega
end Go.Proofs.YtpgcelbgmpfliaaDoor

namespace Go.Proofs.YtpgcelbgmpfliaaDoor
open Go.RowKit Go.IntWalk

set_option maxHeartbeats 400000 in
theorem Canon_any (x : Nat) (w : World) (hx : x < 18446744073709551616) :
    Calls Tryd.prog 53 #[.float .f64 x] w fun r w' => r = .returned (.float .f64 (canonOf x)) ∧ Below w.heap.size w w' := by
  have h1 := f64bits
  have h2 := f64from
  go_enter Tryd.func53, Tryd.ntmps53
  go_wp2_with fail
  refine (layout64_any _).mono ?_
  rintro r w1 ⟨rfl, hb⟩
  go_wp2_with fail
  refine (canon_any x _ hx).mono ?_
  rintro r w2 ⟨rfl, hb2⟩
  go_wp2_with fail
  go_ret
  exact ⟨rfl, bl_then hb hb2⟩

theorem f64bits32 (b : Nat) (w : World) : (callFunc 20 #[.float .f32 b]).run Tryd.prog w = .ok (.value (.int .u32 b)) w := by
  rw [run_callFunc_extern Tryd.func20 (by kernel_rfl) (by kernel_rfl) (by kernel_rfl) (e := Extern.MathFloatBits.float32bits) (by kernel_rfl)]; rfl
theorem f64from32 (b : Nat) (w : World) : (callFunc 35 #[.int .u32 b]).run Tryd.prog w = .ok (.value (.float .f32 b)) w := by
  rw [run_callFunc_extern Tryd.func35 (by kernel_rfl) (by kernel_rfl) (by kernel_rfl) (e := Extern.MathFloatBits.float32frombits) (by kernel_rfl)]; rfl

set_option maxHeartbeats 400000 in
theorem f_any32 (x : Nat) (w : World) :
    Calls Tryd.prog 12 #[.int .u32 x] w fun e w' => e = .returned (.float .f32 x) ∧ w' = w := by
  have h2 := f64from32
  go_enter Tryd.func12, Tryd.ntmps12
  go_wp2
  go_ret
  exact ⟨rfl, rfl⟩

set_option maxHeartbeats 400000 in
theorem layout64_any32 (w : World) :
    Calls Tryd.prog 78 #[] w fun e w' => e = .returned (.agg #[.int .i64 23, .int .u32 8388607, .int .u32 255, .int .u32 2147483648, .int .u32 2139095040, .int .u32 2143289344, .int .i64 150]) ∧ Below w.heap.size w w' := by
  go_enter Tryd.func78, Tryd.ntmps78
  go_wp2
  exact bodyPost_ret (v := .agg #[.int .i64 23, .int .u32 8388607, .int .u32 255, .int .u32 2147483648, .int .u32 2139095040, .int .u32 2143289344, .int .i64 150]) (by simp [results, Tryd.results78, go_sem]) rfl ⟨rfl, (Below.refl _ _).alloc (Nat.le_refl _) _⟩

set_option maxHeartbeats 400000 in
theorem canon_eq32 (x : Nat) (w : World) (hx : x < 4294967296) :
    Calls Tryd.prog 77 #[.agg #[.int .i64 23, .int .u32 8388607, .int .u32 255, .int .u32 2147483648, .int .u32 2139095040, .int .u32 2143289344, .int .i64 150], .int .u32 x] w fun e w' => e = .returned (.int .u32 (canonOf32 x)) ∧ w' = w.alloc (.cells #[.int .i64 23, .int .u32 8388607, .int .u32 255, .int .u32 2147483648, .int .u32 2139095040, .int .u32 2143289344, .int .i64 150] 108) := by
  go_enter Tryd.func77, Tryd.ntmps77
  go_wp2
  · go_ret
    exact ⟨ret_int (canon_w132 hx ‹_›), rfl⟩
  · go_ret
    exact ⟨ret_int (canon_w232 hx ‹_›), rfl⟩
theorem canon_any32 (x : Nat) (w : World) (hx : x < 4294967296) :
    Calls Tryd.prog 77 #[.agg #[.int .i64 23, .int .u32 8388607, .int .u32 255, .int .u32 2147483648, .int .u32 2139095040, .int .u32 2143289344, .int .i64 150], .int .u32 x] w fun e w' => e = .returned (.int .u32 (canonOf32 x)) ∧ Below w.heap.size w w' :=
  (canon_eq32 x w hx).mono fun _ _ h => ⟨h.1, by rw [h.2]; exact (Below.refl _ _).alloc (Nat.le_refl _) _⟩
set_option maxHeartbeats 400000 in
theorem Canon_any32 (x : Nat) (w : World) (hx : x < 4294967296) :
    Calls Tryd.prog 56 #[.float .f32 x] w fun r w' => r = .returned (.float .f32 (canonOf32 x)) ∧ Below w.heap.size w w' := by
  have h1 := f64bits32
  have h2 := f64from32
  go_enter Tryd.func56, Tryd.ntmps56
  go_wp2_with fail
  refine (layout64_any32 _).mono ?_
  rintro r w1 ⟨rfl, hb⟩
  go_wp2_with fail
  refine (canon_any32 x _ hx).mono ?_
  rintro r w2 ⟨rfl, hb2⟩
  go_wp2_with fail
  go_ret
  exact ⟨rfl, bl_then hb hb2⟩

end Go.Proofs.YtpgcelbgmpfliaaDoor

namespace Go.Proofs.YtpgcelbgmpfliaaDoor
open Go.RowKit Go.IntWalk

set_option maxHeartbeats 400000 in
theorem known_any (mode : Int) (w : World) :
    Calls Tryd.prog 31 #[.int .i64 mode] w fun r w' => r = .returned (.bool (decide (0 ≤ mode ∧ mode ≤ 4))) ∧ w' = w := by
  go_enter Tryd.func31, Tryd.ntmps31
  go_wp2
  all_goals go_ret
  all_goals exact ⟨ret_bool (by simp; try omega), rfl⟩

set_option maxHeartbeats 400000 in
theorem grows_any (mode : Int) (neg odd : Bool) (left : Nat) (w : World) (hl : left ≤ 3) :
    Calls Tryd.prog 99 #[.int .i64 mode, .bool neg, .bool odd, .int .i64 left] w fun r w' => r = .returned (.bool (growsOf mode neg odd left)) ∧ w' = w := by
  obtain h | h | h | h : left = 0 ∨ left = 1 ∨ left = 2 ∨ left = 3 := by omega
  all_goals
    subst h
    go_enter Tryd.func99, Tryd.ntmps99
    go_wp2
    all_goals go_ret
    all_goals (refine ⟨ret_bool ?_, rfl⟩; unfold growsOf; simp_all)

theorem ret_ui {a a' c c' : Int} (h1 : a = a') (h2 : c = c') : Ending.returned (.tuple #[.int .u64 a, .int .i64 c]) = .returned (.tuple #[.int .u64 a', .int .i64 c']) := by rw [h1, h2]
theorem mulpow_cast (m k : Nat) : (m : Int) * 2 ^ k = ((m * 2 ^ k : Nat) : Int) := by rw [Int.natCast_mul, Int.natCast_pow]; rfl
theorem shl_w (m k : Nat) (h : m * 2 ^ k < 18446744073709551616) : IntKind.u64.wrap ((m : Int) * 2 ^ k) = ((m * 2 ^ k : Nat) : Int) := by
  rw [IntKind.wrap_u64, Int.natCast_mul, Int.natCast_pow]
  have e : ((2 : Nat) : Int) = 2 := rfl
  rw [e]
  have : (m : Int) * 2 ^ k = ((m * 2 ^ k : Nat) : Int) := by rw [Int.natCast_mul, Int.natCast_pow]; rfl
  rw [this]
  omega
set_option maxHeartbeats 400000 in
theorem cut_low (neg : Bool) (m k : Nat) (e : Int) (w : World) (hk : k ≤ 64) (h : m * 2 ^ k < 18446744073709551616) :
    Calls Tryd.prog 98 #[.agg #[.bool neg, .int .u64 m, .int .i64 e], .int .i64 (e - (k : Int))] w fun r w' => r = .returned (.tuple #[.int .u64 ((m * 2 ^ k : Nat) : Int), .int .i64 0]) ∧ Below w.heap.size w w' := by
  have hw : IntKind.i64.wrap (e - (k : Int) - e) = -(k : Int) := by rw [IntWalk.i64_in _ (by omega)]; omega
  have hw2 : IntKind.i64.wrap (- -(k : Int)) = (k : Int) := by rw [IntWalk.i64_in _ (by omega)]; omega
  have hs := shl_w m k h
  have hmin : min k 64 = k := Nat.min_eq_left hk
  have H := hid h
  have HK := hid hk
  clear h hk
  go_enter Tryd.func98, Tryd.ntmps98
  go_wp2
  go_ret2
  exact ⟨ret_ui (mulpow_cast m k) rfl, (Below.refl _ _).alloc (Nat.le_refl _) _⟩
set_option maxHeartbeats 400000 in
theorem cut_far (neg : Bool) (m k : Nat) (e : Int) (w : World) (hk : k ≤ 200000) (h : 64 < k) :
    Calls Tryd.prog 98 #[.agg #[.bool neg, .int .u64 m, .int .i64 e], .int .i64 (e + (k : Int))] w fun r w' => r = .returned (.tuple #[.int .u64 0, .int .i64 1]) ∧ Below w.heap.size w w' := by
  have hw : IntKind.i64.wrap (e + (k : Int) - e) = (k : Int) := by rw [IntWalk.i64_in _ (by omega)]; omega
  go_enter Tryd.func98, Tryd.ntmps98
  go_wp2
  go_ret2
  exact ⟨rfl, (Below.refl _ _).alloc (Nat.le_refl _) _⟩
theorem shr_w (m k : Nat) : (m : Int) / 2 ^ k = ((m / 2 ^ k : Nat) : Int) := by rw [Int.natCast_ediv, Int.natCast_pow]; rfl
theorem under_w (m k : Nat) (hk : k ≤ 64) : IntKind.u64.wrap ((m : Int) * 2 ^ (64 - k)) = ((m % 2 ^ k * 2 ^ (64 - k) : Nat) : Int) := by
  have e1 : (m : Int) * 2 ^ (64 - k) = ((m * 2 ^ (64 - k) : Nat) : Int) := by rw [Int.natCast_mul, Int.natCast_pow]; rfl
  have e2 : m * 2 ^ (64 - k) % 18446744073709551616 = m % 2 ^ k * 2 ^ (64 - k) := by
    have e3 : (18446744073709551616 : Nat) = 2 ^ k * 2 ^ (64 - k) := by rw [← Nat.pow_add, Nat.add_sub_cancel' hk]
    rw [e3, Nat.mul_mod_mul_right]
  rw [IntKind.wrap_u64, e1, ← e2]
  omega
theorem rest_under (m k : Nat) (h2 : k ≤ 64) (U : Nat) (hU : m % 2 ^ k * 2 ^ (64 - k) = U) : restN m k = if U = 0 then 0 else if U < 9223372036854775808 then 1 else if U = 9223372036854775808 then 2 else 3 := by
  have hp := Nat.two_pow_pos (64 - k)
  have e3 : (18446744073709551616 : Nat) = 2 ^ k * 2 ^ (64 - k) := by rw [← Nat.pow_add, Nat.add_sub_cancel' h2]
  have h0 : U = 0 ↔ m % 2 ^ k = 0 := by
    rw [← hU]
    constructor
    · intro h
      rcases Nat.mul_eq_zero.1 h with h | h
      · exact h
      · omega
    · intro h; rw [h, Nat.zero_mul]
  have hlt : U < 9223372036854775808 ↔ 2 * (m % 2 ^ k) < 2 ^ k := by
    have : U < 9223372036854775808 ↔ 2 * (m % 2 ^ k) * 2 ^ (64 - k) < 2 ^ k * 2 ^ (64 - k) := by
      rw [← e3, Nat.mul_assoc, hU]; omega
    rw [this]
    exact Nat.mul_lt_mul_right hp
  have heq : U = 9223372036854775808 ↔ 2 * (m % 2 ^ k) = 2 ^ k := by
    have : U = 9223372036854775808 ↔ 2 * (m % 2 ^ k) * 2 ^ (64 - k) = 2 ^ k * 2 ^ (64 - k) := by
      rw [← e3, Nat.mul_assoc, hU]; omega
    rw [this]
    exact ⟨fun h => Nat.eq_of_mul_eq_mul_right hp h, fun h => by rw [h]⟩
  unfold restN
  simp only [h0, hlt, heq]
set_option maxHeartbeats 400000 in
theorem cut_mid (neg : Bool) (m k j : Nat) (e : Int) (w : World) (hk1 : 1 ≤ k) (hj : k + j = 64) :
    Calls Tryd.prog 98 #[.agg #[.bool neg, .int .u64 m, .int .i64 e], .int .i64 (e + (k : Int))] w fun r w' => r = .returned (.tuple #[.int .u64 ((m / 2 ^ k : Nat) : Int), .int .i64 (restN m k : Nat)]) ∧ Below w.heap.size w w' := by
  have hk : k ≤ 64 := by omega
  have ej : 64 - k = j := by omega
  obtain ⟨U, hU⟩ : ∃ U, Hid (m % 2 ^ k * 2 ^ j = U) := ⟨_, rfl⟩
  have HR := hid (rest_under m k hk U (by rw [ej]; exact hU.out))
  have hu := under_w m k hk
  rw [ej, hU.out] at hu
  obtain ⟨V, hV⟩ : ∃ V : Int, Hid ((U : Int) = V) := ⟨_, rfl⟩
  rw [hV.out] at hu
  have hr := shr_w m k
  obtain ⟨Q, hQ⟩ : ∃ Q, Hid (m / 2 ^ k = Q) := ⟨_, rfl⟩
  rw [hQ.out] at hr ⊢
  have hw : IntKind.i64.wrap (e + (k : Int) - e) = (k : Int) := by rw [IntWalk.i64_in _ (by omega)]; omega
  have hw2 : IntKind.i64.wrap (64 - (k : Int)) = (j : Int) := by rw [IntWalk.i64_in _ (by omega)]; omega
  have hm1 : min k 64 = k := Nat.min_eq_left hk
  have hm2 : min j 64 = j := Nat.min_eq_left (by omega)
  have hi1 : (k : Int) ≤ 64 := by omega
  have hi2 : 0 < (k : Int) := by omega
  clear ej hj hk hk1
  go_enter Tryd.func98, Tryd.ntmps98
  go_wp2_with fail
  go_quiet (fail)
  go_wp2
  all_goals go_ret2
  all_goals (refine ⟨ret_ui rfl ?_, ?_⟩)
  all_goals first
    | (have hv := hV.out
       rw [HR.out]
       clear HR hV hU hu hw hw2 hr hQ
       simp only [beq_iff_eq, beq_eq_false_iff_ne, ne_eq] at *
       split <;> (try split) <;> (try split) <;> omega)
    | repeat (first | exact Below.refl _ _ | refine bl_al ?_ _ | refine bl_drewN _ ?_ | refine Below.drew ?_)

/-- cut, whatever the shift: with room for the steps in 64 bits. -/
theorem rest_le (m s : Nat) : restN m s ≤ 3 := by
  unfold restN
  split
  · omega
  · split
    · omega
    · split <;> omega
theorem cutR_le (m : Nat) (sh : Int) : cutR m sh ≤ 3 := by
  unfold cutR
  split
  · omega
  · exact rest_le _ _
theorem cut_any (neg : Bool) (m : Nat) (e u : Int) (w : World) (hm : m < 18446744073709551616) (h0 : m ≠ 0) (h1 : -100000 ≤ e) (h2 : e ≤ 100000) (h3 : -100000 ≤ u) (h4 : u ≤ 100000) (h : cutQ m (u - e) < 18446744073709551616) :
    Calls Tryd.prog 98 #[.agg #[.bool neg, .int .u64 m, .int .i64 e], .int .i64 u] w fun r w' => r = .returned (.tuple #[.int .u64 (cutQ m (u - e)), .int .i64 (cutR m (u - e))]) ∧ Below w.heap.size w w' := by
  by_cases hs : u - e ≤ 0
  · obtain ⟨k, hk⟩ := Int.eq_ofNat_of_zero_le (show 0 ≤ e - u by omega)
    have eu : u = e - (k : Int) := by omega
    have hq : cutQ m (u - e) = m * 2 ^ k := by
      unfold cutQ; rw [if_pos hs]; congr 2; omega
    have hr : cutR m (u - e) = 0 := by unfold cutR; rw [if_pos hs]
    rw [hq] at h
    rw [hq, hr, eu]
    have hk64 : k ≤ 64 := by
      apply Classical.byContradiction
      intro hc
      have a1 : 2 ^ 64 ≤ 2 ^ k := Nat.pow_le_pow_right (by decide) (by omega)
      have a2 : 1 * 2 ^ k ≤ m * 2 ^ k := Nat.mul_le_mul_right _ (by omega)
      have a3 : (2 : Nat) ^ 64 = 18446744073709551616 := by decide
      omega
    exact cut_low neg m k e w hk64 h
  · obtain ⟨k, hk⟩ := Int.eq_ofNat_of_zero_le (show 0 ≤ u - e by omega)
    have eu : u = e + (k : Int) := by omega
    have ek : (u - e).toNat = k := by omega
    have hq : cutQ m (u - e) = m / 2 ^ k := by unfold cutQ; rw [if_neg hs, ek]
    have hr : cutR m (u - e) = restN m k := by unfold cutR; rw [if_neg hs, ek]
    rw [hq, hr, eu]
    by_cases hk2 : k ≤ 64
    · exact cut_mid neg m k (64 - k) e w (by omega) (by omega)
    · have a1 : 2 ^ 65 ≤ 2 ^ k := Nat.pow_le_pow_right (by decide) (by omega)
      have a3 : (2 : Nat) ^ 65 = 36893488147419103232 := by decide
      have hml : m < 2 ^ k := by omega
      have e1 : m / 2 ^ k = 0 := Nat.div_eq_of_lt hml
      have e2 : restN m k = 1 := by unfold restN; rw [Nat.mod_eq_of_lt hml, if_neg h0, if_pos (by omega)]
      rw [e1, e2]
      exact cut_far neg m k e w (by omega) (by omega)

set_option maxHeartbeats 400000 in
theorem stepsOf_zero (neg : Bool) (m : Nat) (e u mode : Int) (w : World) (hm : m < 18446744073709551616) (h0 : m ≠ 0) (h1 : -100000 ≤ e) (h2 : e ≤ 100000) (h3 : -100000 ≤ u) (h4 : u ≤ 100000) (h : cutQ m (u - e) < 18446744073709551616) (hr : cutR m (u - e) = 0) :
    Calls Tryd.prog 81 #[.agg #[.bool neg, .int .u64 m, .int .i64 e], .int .i64 u, .int .i64 mode] w fun r w' => r = .returned (.tuple #[.int .u64 (stepQ m (u - e) mode neg), .int .i64 0]) ∧ Below w.heap.size w w' := by
  have hst : stepQ m (u - e) mode neg = cutQ m (u - e) := by unfold stepQ; rw [if_neg (fun c => c.1 hr), Nat.add_zero]
  rw [hst]
  have hc := cut_any neg m e u (w.alloc (.cells #[.bool neg, .int .u64 m, .int .i64 e] 84)) hm h0 h1 h2 h3 h4 h
  rw [hr] at hc
  obtain ⟨Q, hQ⟩ : ∃ Q, Hid (cutQ m (u - e) = Q) := ⟨_, rfl⟩
  rw [hQ.out] at hc ⊢
  clear hst hr h
  have HC := hid hc
  clear hc
  go_enter Tryd.func81, Tryd.ntmps81
  go_wp2_with fail
  refine HC.out.mono ?_
  rintro r w1 ⟨rfl, hb⟩
  go_wp2
  go_ret2
  exact ⟨rfl, bl_alloc hb⟩
theorem odd_b (Q : Nat) : ((Q : Int) % 2 == 1) = decide (Q % 2 = 1) := by
  rw [Bool.eq_iff_iff]; simp only [beq_iff_eq, decide_eq_true_eq]; omega
set_option maxHeartbeats 400000 in
theorem stepsOf_more (neg : Bool) (m : Nat) (e u mode : Int) (w : World) (hm : m < 18446744073709551616) (h0 : m ≠ 0) (h1 : -100000 ≤ e) (h2 : e ≤ 100000) (h3 : -100000 ≤ u) (h4 : u ≤ 100000) (h : cutQ m (u - e) < 9223372036854775809) (hr : cutR m (u - e) ≠ 0) :
    Calls Tryd.prog 81 #[.agg #[.bool neg, .int .u64 m, .int .i64 e], .int .i64 u, .int .i64 mode] w fun r w' => r = .returned (.tuple #[.int .u64 (stepQ m (u - e) mode neg), .int .i64 1]) ∧ Below w.heap.size w w' := by
  have hst : stepQ m (u - e) mode neg = cutQ m (u - e) + if growsOf mode neg (decide (cutQ m (u - e) % 2 = 1)) (cutR m (u - e)) = true then 1 else 0 := by
    unfold stepQ
    by_cases c : growsOf mode neg (decide (cutQ m (u - e) % 2 = 1)) (cutR m (u - e)) = true
    · rw [if_pos c, if_pos ⟨hr, c⟩]
    · rw [if_neg c, if_neg (fun d => c d.2)]
  rw [hst]
  have hc := cut_any neg m e u (w.alloc (.cells #[.bool neg, .int .u64 m, .int .i64 e] 84)) hm h0 h1 h2 h3 h4 (by omega)
  have hrl := cutR_le m (u - e)
  obtain ⟨Q, hQ⟩ : ∃ Q, Hid (cutQ m (u - e) = Q) := ⟨_, rfl⟩
  obtain ⟨R, hR⟩ : ∃ R, Hid (cutR m (u - e) = R) := ⟨_, rfl⟩
  rw [hQ.out] at h
  rw [hR.out] at hr hrl
  rw [hQ.out, hR.out] at hc ⊢
  obtain ⟨o, ho⟩ : ∃ o, Hid (decide (Q % 2 = 1) = o) := ⟨_, rfl⟩
  have hod := odd_b Q
  rw [ho.out] at hod ⊢
  obtain ⟨G, hG⟩ : ∃ G, Hid (growsOf mode neg o R = G) := ⟨_, rfl⟩
  rw [hG.out]
  obtain ⟨S, hS⟩ : ∃ S, Hid (Q + 1 = S) := ⟨_, rfl⟩
  have hq1 : IntKind.u64.wrap ((Q : Int) + 1) = (S : Int) := by have := hS.out; rw [IntKind.wrap_u64]; omega
  have hr0 : ((R : Int) == 0) = false := by simpa using hr
  have HRL := hid hrl
  have HC := hid hc
  clear hst hr h hc hrl
  go_enter Tryd.func81, Tryd.ntmps81
  go_wp2_with fail
  refine HC.out.mono ?_
  rintro r w1 ⟨rfl, hb⟩
  obtain ⟨hcl, hf⟩ := bcell hb
  have hz : w.heap.size < w1.heap.size := by have := hb.size; simp at this; omega
  have c0 : w1.cell? ⟨w.heap.size, 0, none⟩ = some (.bool neg) := by rw [hcl _ _ (by simp)]; simp [go_sem]
  have hbb : Hid (Below w.heap.size w w1) := bl_alloc hb
  clear hcl hf hb
  go_wp2_with fail
  refine (grows_any mode neg o R _ HRL.out).mono ?_
  rintro r w2 ⟨rfl, rfl⟩
  rw [hG.out]
  cases G
  · go_wp2
    go_ret2
    exact ⟨rfl, hbb.out⟩
  · go_wp2
    go_ret2
    exact ⟨ret_ui (by have := hS.out; omega) rfl, hbb.out⟩
theorem stepsOf_any (neg : Bool) (m : Nat) (e u mode : Int) (w : World) (hm : m < 18446744073709551616) (h0 : m ≠ 0) (h1 : -100000 ≤ e) (h2 : e ≤ 100000) (h3 : -100000 ≤ u) (h4 : u ≤ 100000) (h : cutQ m (u - e) < 9223372036854775809) :
    Calls Tryd.prog 81 #[.agg #[.bool neg, .int .u64 m, .int .i64 e], .int .i64 u, .int .i64 mode] w fun r w' => r = .returned (.tuple #[.int .u64 (stepQ m (u - e) mode neg), .int .i64 (if cutR m (u - e) = 0 then 0 else 1)]) ∧ Below w.heap.size w w' := by
  by_cases hr : cutR m (u - e) = 0
  · rw [if_pos hr]; exact stepsOf_zero neg m e u mode w hm h0 h1 h2 h3 h4 (by omega) hr
  · rw [if_neg hr]; exact stepsOf_more neg m e u mode w hm h0 h1 h2 h3 h4 h hr
end Go.Proofs.YtpgcelbgmpfliaaDoor
