
/- What the document's formats, Known, None, IsZero and Take do. -/
import Derived.Test.YtpgcelbgmpfliaaGreatDoorV16
import Derived.Test.YtpgcelbgmpfliaaGreatDoorV32
import Derived.Test.YtpgcelbgmpfliaaGreatDoorV33
namespace Go.Proofs.YtpgcelbgmpfliaaGreatDoor
open Go Go.RowKit Go.IntWalk

theorem low_unit (P L : Int) (m : Nat) (e mode : Int) (neg : Bool) (p : Nat) (h0 : m ≠ 0) (hp : P = (p : Int)) (p1 : 1 ≤ p) (h : bitLen (rSteps P L m e mode neg) < p) : rUnit P L m e = L - P + 1 := by
  apply Classical.byContradiction
  intro hc
  have hT : L < rTop m e := by unfold rUnit at hc; omega
  have hu : rUnit P L m e = rTop m e - P + 1 := by unfold rUnit; omega
  have h1 : 2 ^ (p - 1) ≤ cutQ m (rUnit P L m e - e) := cutQ_ge m e _ (p - 1) h0 (by rw [hu]; unfold rTop; omega)
  have h2 : 2 ^ (p - 1) ≤ rSteps P L m e mode neg := by
    unfold rSteps stepQ
    omega
  have := lt_bitLen h2
  omega
theorem gr64 : wMag 9007199254740991 971 = 9218868437227405311 := by decide +kernel
theorem gr32 : mag32 16777215 104 = 2139095039 := by decide +kernel
theorem docR64_is (m : Nat) (e mode : Int) (neg : Bool) (h0 : m ≠ 0) (m1 : 0 ≤ mode) (m2 : mode ≤ 4) : docR64 m e mode neg = rMag 53 (-1022) 1023 m e mode neg := by
  unfold docR64 rMag
  by_cases c : rOver 53 (-1022) 1023 m e mode neg
  · rw [if_pos c, if_pos c]
    unfold overM64 bigM
    rw [overB_grows neg mode m1 m2]
    have e1 : wMag (2 ^ (53 : Int).toNat - 1) (1023 - 53 + 1) = 9218868437227405311 := gr64
    rw [e1]
    cases growsOf mode neg true 3 <;> rfl
  · rw [if_neg c, if_neg c]
    obtain ⟨o1, o2, o3⟩ := rOver_not 53 (-1022) 1023 m e mode neg 53 rfl (by decide) (by decide) (by decide) c
    exact doc64 _ _ o1 o2 (fun h => low_unit 53 (-1022) m e mode neg 53 h0 rfl (by decide) h) o3
theorem docR32_is (m : Nat) (e mode : Int) (neg : Bool) (h0 : m ≠ 0) (m1 : 0 ≤ mode) (m2 : mode ≤ 4) : docR32 m e mode neg = nMag m e mode neg := by
  unfold docR32 nMag
  by_cases c : rOver 24 (-126) 127 m e mode neg
  · rw [if_pos c, if_pos c]
    unfold overM32
    rw [overB_grows neg mode m1 m2, gr32]
    cases growsOf mode neg true 3 <;> rfl
  · rw [if_neg c, if_neg c]
    obtain ⟨o1, o2, o3⟩ := steps32 m e mode neg c
    exact doc32 _ _ o1 o2 (fun h => low_unit 24 (-126) m e mode neg 24 h0 rfl (by decide) h) o3
theorem nMag_scale (m k : Nat) (e mode : Int) (neg : Bool) (h0 : m ≠ 0) : nMag (m * 2 ^ k) (e - k) mode neg = nMag m e mode neg := by
  obtain ⟨a, b, c, d⟩ := rnd_scale 24 (-126) 127 m k e mode neg h0
  unfold nMag
  rw [a, b]
  by_cases h : rOver 24 (-126) 127 m e mode neg
  · rw [if_pos h, if_pos (d.2 h)]
  · rw [if_neg h, if_neg (fun x => h (d.1 x))]
theorem rMag_scale (P L H : Int) (m k : Nat) (e mode : Int) (neg : Bool) (h0 : m ≠ 0) : rMag P L H (m * 2 ^ k) (e - k) mode neg = rMag P L H m e mode neg := by
  obtain ⟨a, b, c, d⟩ := rnd_scale P L H m k e mode neg h0
  unfold rMag
  rw [a, b]
  by_cases h : rOver P L H m e mode neg
  · rw [if_pos h, if_pos (d.2 h)]
  · rw [if_neg h, if_neg (fun x => h (d.1 x))]
/-- What bits stand for, by the document: M times 2 to the E. -/
def tM64 (x : Nat) : Nat := if x / 4503599627370496 % 2048 = 0 then x % 4503599627370496 else x % 4503599627370496 + 4503599627370496
def tE64 (x : Nat) : Int := if x / 4503599627370496 % 2048 = 0 then -1074 else ((x / 4503599627370496 % 2048 : Nat) : Int) - 1075
def tM32 (x : Nat) : Nat := if x / 8388608 % 256 = 0 then x % 8388608 else x % 8388608 + 8388608
def tE32 (x : Nat) : Int := if x / 8388608 % 256 = 0 then -149 else ((x / 8388608 % 256 : Nat) : Int) - 150
theorem take64 (x : Nat) (hf : x % 9223372036854775808 < 9218868437227405312) (h0 : x % 9223372036854775808 ≠ 0) : ∃ k : Nat, tM64 x = pMant x * 2 ^ k ∧ tE64 x = pExp x - k ∧ pMant x ≠ 0 := by
  obtain ⟨v1, v2, v3, v4, v5⟩ := parts_val x hf
  have hm : mantOf x ≠ 0 := fun c => h0 (v4.1 c)
  obtain ⟨w1, w2, w3, w4, w5, w6⟩ := v5 hm
  have hm64 : mantOf x < 18446744073709551616 := by have := mant_lt x; omega
  obtain ⟨q, hq, hmq⟩ := odd_spec _ hm hm64
  have he : expOf x = x / 4503599627370496 % 2048 := by unfold expOf; rw [v3]
  have hfr : fracOf x = x % 4503599627370496 := by unfold fracOf; rw [v3]
  refine ⟨tzOf (mantOf x), ?_, ?_, w1⟩
  · have e1 : tM64 x = mantOf x := by
      unfold tM64 mantOf
      rw [← he, ← hfr]
      by_cases c : expOf x = 0
      · rw [if_pos c, if_neg (by omega)]
      · rw [if_neg c, if_pos (by omega)]
    rw [e1]
    unfold pMant
    rw [if_neg v1, hq, Nat.mul_comm]
    exact hmq
  · have hp : pExp x = max (expOf x : Int) 1 - 1075 + (tzOf (mantOf x) : Int) := by
      unfold pExp
      exact if_neg (fun c => c.elim v1 hm)
    have ht : tE64 x = if expOf x = 0 then -1074 else (expOf x : Int) - 1075 := by unfold tE64; rw [he]
    rw [hp, ht]
    by_cases c : expOf x = 0
    · rw [if_pos c, c]; omega
    · rw [if_neg c]; omega
end Go.Proofs.YtpgcelbgmpfliaaGreatDoor

namespace Go.Proofs.YtpgcelbgmpfliaaGreatDoor
open Go.RowKit Go.IntWalk

set_option maxHeartbeats 400000 in
theorem Single_any (w : World) :
    Calls Tryz.prog 42 #[] w fun e w' => e = .returned (.agg #[.int .i64 24, .int .i64 (-126), .int .i64 127, .int .i64 8]) ∧ Below w.heap.size w w' := by
  go_enter Tryz.func42, Tryz.ntmps42
  go_wp2
  exact bodyPost_ret (v := .agg #[.int .i64 24, .int .i64 (-126), .int .i64 127, .int .i64 8]) (by simp [results, Tryz.results42, go_sem]) rfl ⟨rfl, (Below.refl _ _).alloc (Nat.le_refl _) _⟩
set_option maxHeartbeats 400000 in
theorem Double_any (w : World) :
    Calls Tryz.prog 37 #[] w fun e w' => e = .returned (.agg #[.int .i64 53, .int .i64 (-1022), .int .i64 1023, .int .i64 11]) ∧ Below w.heap.size w w' := by
  go_enter Tryz.func37, Tryz.ntmps37
  go_wp2
  exact bodyPost_ret (v := .agg #[.int .i64 53, .int .i64 (-1022), .int .i64 1023, .int .i64 11]) (by simp [results, Tryz.results37, go_sem]) rfl ⟨rfl, (Below.refl _ _).alloc (Nat.le_refl _) _⟩
set_option maxHeartbeats 400000 in
theorem Known_any (mode : Int) (w : World) :
    Calls Tryz.prog 53 #[.int .i64 mode] w fun e w' => e = .returned (.bool (decide (0 ≤ mode ∧ mode ≤ 4))) ∧ w' = w := by
  by_cases h1 : 0 ≤ mode
  · by_cases h2 : mode ≤ 4
    · rw [decide_eq_true ⟨h1, h2⟩]
      go_enter Tryz.func53, Tryz.ntmps53
      go_wp2
      go_ret
      exact ⟨rfl, rfl⟩
    · rw [decide_eq_false (fun c => h2 c.2)]
      go_enter Tryz.func53, Tryz.ntmps53
      go_wp2
      go_ret
      exact ⟨rfl, rfl⟩
  · rw [decide_eq_false (fun c => h1 c.1)]
    go_enter Tryz.func53, Tryz.ntmps53
    go_wp2
    go_ret
    exact ⟨rfl, rfl⟩
set_option maxHeartbeats 400000 in
theorem None64_any (w : World) :
    Calls Tryz.prog 98 #[.agg #[.int .i64 53, .int .i64 (-1022), .int .i64 1023, .int .i64 11]] w fun e w' => e = .returned (.int .u64 9221120237041090561) ∧ Below w.heap.size w w' := by
  go_enter Tryz.func98, Tryz.ntmps98
  go_wp2
  go_ret
  exact ⟨rfl, (Below.refl _ _).alloc (Nat.le_refl _) _⟩
set_option maxHeartbeats 400000 in
theorem None32_any (w : World) :
    Calls Tryz.prog 98 #[.agg #[.int .i64 24, .int .i64 (-126), .int .i64 127, .int .i64 8]] w fun e w' => e = .returned (.int .u64 2143289344) ∧ Below w.heap.size w w' := by
  go_enter Tryz.func98, Tryz.ntmps98
  go_wp2
  go_ret
  exact ⟨rfl, (Below.refl _ _).alloc (Nat.le_refl _) _⟩
set_option maxHeartbeats 400000 in
theorem IsZero_any (kind : Int) (neg : Bool) (z m bd : Nat) (e : Int) (w : World) (h : NumAt w z m bd) :
    Calls Tryz.prog 55 #[.agg #[.int .i64 kind, .bool neg, .pointer (some ⟨z, 0, none⟩), .int .i64 e]] w fun r w' => r = .returned (.bool (decide (kind = 0) && decide (m = 0))) ∧ Below w.heap.size w w' := by
  have HS : Hid (∀ W, NumAt W z m bd → Calls Tryz.prog 58 #[.pointer (some ⟨z, 0, none⟩)] W fun r w' => r = .returned (.int .i64 (if m = 0 then 0 else 1)) ∧ w' = W) := fun W h => by
    have := NSign z m bd W h
    rw [sgnZ_nat] at this
    exact this
  have HN := hid h
  clear h
  by_cases hk : kind = 0
  · subst hk
    by_cases hm : m = 0
    · rw [if_pos hm] at HS
      rw [decide_eq_true hm]
      clear hm
      go_enter Tryz.func55, Tryz.ntmps55
      go_wp2_with fail
      refine (HS.out _ (HN.out.al _)).mono ?_
      rintro r w1 ⟨rfl, rfl⟩
      go_wp2
      go_ret
      exact ⟨rfl, al_below _ _⟩
    · rw [if_neg hm] at HS
      rw [decide_eq_false hm]
      clear hm
      go_enter Tryz.func55, Tryz.ntmps55
      go_wp2_with fail
      refine (HS.out _ (HN.out.al _)).mono ?_
      rintro r w1 ⟨rfl, rfl⟩
      go_wp2
      go_ret
      exact ⟨rfl, al_below _ _⟩
  · rw [decide_eq_false hk, Bool.false_and]
    have hkb : (kind == 0) = false := by simpa using hk
    clear hk
    go_enter Tryz.func55, Tryz.ntmps55
    go_wp2
    go_ret
    exact ⟨rfl, al_below _ _⟩
end Go.Proofs.YtpgcelbgmpfliaaGreatDoor
