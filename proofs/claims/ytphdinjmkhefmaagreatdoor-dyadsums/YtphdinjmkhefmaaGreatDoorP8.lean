
/- What is on the grid is not rounded, and what is not on it is told by the flags; no program is spoken of. -/
import Derived.Test.YtphdinjmkhefmaaGreatDoorP7
import Derived.Test.YtphdinjmkhefmaaGreatDoorP2
import Derived.Test.YtphdinjmkhefmaaGreatDoorP4
import Derived.Test.YtphdinjmkhefmaaGreatDoorP1
namespace Go.Proofs.YtphdinjmkhefmaaGreatDoor
open Go Go.RowKit Go.IntWalk

theorem nv_inj {r s : Nat} (h : nv r = nv s) : r = s := by
  rcases Nat.lt_trichotomy r s with c | c | c
  · have := nv_lt c; omega
  · exact c
  · have := nv_lt c; omega
theorem nv_inj32 {r s : Nat} (h : nv32 r = nv32 s) : r = s := by
  rcases Nat.lt_trichotomy r s with c | c | c
  · have := nv_lt32 c; omega
  · exact c
  · have := nv_lt32 c; omega
theorem bitLen_mul_pow (m k : Nat) (h : m ≠ 0) : bitLen (m * 2 ^ k) = bitLen m + k := by
  unfold bitLen
  rw [if_neg h, if_neg (Nat.mul_ne_zero h (Nat.pos_iff_ne_zero.1 (Nat.two_pow_pos k))), log2_mul_pow m k h]
  omega
theorem bitLen_mono {a b : Nat} (h : a ≤ b) : bitLen a ≤ bitLen b := bitLen_le a _ (Nat.lt_of_le_of_lt h (bitLen_hi b))
theorem restN_zero {m s : Nat} : restN m s = 0 ↔ m % 2 ^ s = 0 := by
  unfold restN
  constructor
  · intro h
    apply Classical.byContradiction
    intro hc
    rw [if_neg hc] at h
    split at h
    · omega
    · split at h <;> omega
  · intro h; rw [if_pos h]
/-- Nothing is left over just if so many steps are what there was. -/
theorem step_value (m : Nat) (sh mode : Int) (neg : Bool) : cutR m sh = 0 ↔ stepQ m sh mode neg * 2 ^ sh.toNat = m * 2 ^ (-sh).toNat := by
  unfold stepQ
  by_cases hs : sh ≤ 0
  · have hr : cutR m sh = 0 := by unfold cutR; rw [if_pos hs]
    have hq : cutQ m sh = m * 2 ^ (-sh).toNat := by unfold cutQ; rw [if_pos hs]
    have e : sh.toNat = 0 := by omega
    rw [hr, hq, e]
    simp
  · have hq : cutQ m sh = m / 2 ^ sh.toNat := by unfold cutQ; rw [if_neg hs]
    have hr : cutR m sh = restN m sh.toNat := by unfold cutR; rw [if_neg hs]
    have e : (-sh).toNat = 0 := by omega
    have hd := Nat.div_add_mod m (2 ^ sh.toNat)
    have hl := Nat.mod_lt m (Nat.two_pow_pos sh.toNat)
    rw [hr, hq, e, Nat.pow_zero, Nat.mul_one]
    constructor
    · intro h
      rw [if_neg (fun c => c.1 h)]
      rw [restN_zero] at h
      rw [Nat.mul_comm, Nat.add_zero]
      omega
    · intro h
      rw [restN_zero]
      have h2 : (m / 2 ^ sh.toNat) * 2 ^ sh.toNat = 2 ^ sh.toNat * (m / 2 ^ sh.toNat) := Nat.mul_comm _ _
      split at h
      · rw [Nat.add_mul, Nat.one_mul] at h
        omega
      · rw [Nat.add_zero] at h
        omega
theorem flag_zero (P L H : Int) (m : Nat) (e mode : Int) (neg : Bool) : rFlag P L H m e mode neg = 0 ↔ ¬ rOver P L H m e mode neg ∧ cutR m (rUnit P L m e - e) = 0 := by
  unfold rFlag
  by_cases h : rOver P L H m e mode neg
  · rw [if_pos h]; exact ⟨fun c => by omega, fun c => absurd h c.1⟩
  · rw [if_neg h]
    by_cases h2 : cutR m (rUnit P L m e - e) = 0
    · rw [if_pos h2]; exact ⟨fun _ => ⟨h, h2⟩, fun _ => rfl⟩
    · rw [if_neg h2]
      refine ⟨fun c => ?_, fun c => absurd c.2 h2⟩
      split at c <;> omega
/-- What has room in the digits, from the least step on, is not rounded. -/
theorem fits_exact (P L H : Int) (m : Nat) (e mode : Int) (neg : Bool) (h0 : m ≠ 0) (hfit : (bitLen m : Int) ≤ P) (hlow : L - P + 1 ≤ e) (htop : e + (bitLen m : Int) - 1 ≤ H) :
    rFlag P L H m e mode neg = 0 ∧ ¬ rOver P L H m e mode neg ∧ rUnit P L m e ≤ e ∧ rSteps P L m e mode neg = m * 2 ^ (e - rUnit P L m e).toNat := by
  have hu : rUnit P L m e - e ≤ 0 := by unfold rUnit rTop; omega
  have hr : cutR m (rUnit P L m e - e) = 0 := by unfold cutR; rw [if_pos hu]
  have hs : rSteps P L m e mode neg = m * 2 ^ (e - rUnit P L m e).toNat := by
    unfold rSteps stepQ
    rw [if_neg (fun c => c.1 hr)]
    unfold cutQ
    have e1 : (-(rUnit P L m e - e)).toNat = (e - rUnit P L m e).toNat := by omega
    rw [if_pos hu, Nat.add_zero, e1]
  have ho : ¬ rOver P L H m e mode neg := by
    unfold rOver
    rw [hs, bitLen_mul_pow _ _ h0]
    omega
  exact ⟨(flag_zero P L H m e mode neg).2 ⟨ho, hr⟩, ho, by omega, hs⟩

/-- A number's value, by its parts. -/
theorem parts_val (x : Nat) (hf : x % 9223372036854775808 < 9218868437227405312) : expOf x ≠ 2047 ∧ negOf x = decide (9223372036854775808 ≤ x) ∧ canonOf x = x ∧ (mantOf x = 0 ↔ x % 9223372036854775808 = 0) ∧ (mantOf x ≠ 0 → pMant x ≠ 0 ∧ -1074 ≤ pExp x ∧ nv (x % 9223372036854775808) = pMant x * 2 ^ (pExp x + 1074).toNat ∧ bitLen (pMant x) ≤ 53 ∧ pExp x + (bitLen (pMant x) : Int) - 1 ≤ 1023 ∧ pMant x < 18446744073709551616) := by
  have hc : canonOf x = x := by unfold canonOf; rw [if_neg (by omega)]
  have he : expOf x = x % 9223372036854775808 / 4503599627370496 := by unfold expOf; rw [hc]; omega
  have hfr : fracOf x = x % 9223372036854775808 % 4503599627370496 := by unfold fracOf; rw [hc]; omega
  have hne : expOf x ≠ 2047 := by omega
  refine ⟨hne, by unfold negOf; rw [hc], hc, ?_, ?_⟩
  · unfold mantOf
    split <;> omega
  · intro hm
    have hml := mant_lt x
    have hm64 : mantOf x < 18446744073709551616 := by omega
    obtain ⟨q, hq, hmq⟩ := odd_spec _ hm hm64
    have es : oddOf (mantOf x) * 2 ^ tzOf (mantOf x) = mantOf x := by rw [hq, Nat.mul_comm]; exact hmq.symm
    have hn : nv (x % 9223372036854775808) = mantOf x * 2 ^ (max (expOf x) 1 - 1) := by
      unfold nv mantOf
      rw [hfr, he]
      by_cases hs : x % 9223372036854775808 < 4503599627370496
      · have e0 : x % 9223372036854775808 / 4503599627370496 = 0 := by omega
        rw [if_pos hs, e0, if_neg (by omega), Nat.mod_eq_of_lt hs]
        simp
      · have e0 : max (x % 9223372036854775808 / 4503599627370496) 1 = x % 9223372036854775808 / 4503599627370496 := by omega
        rw [if_neg hs, if_pos (by omega), e0, Nat.add_comm]
    have hl1 := tz_len _ hm hm64
    have hbl : bitLen (mantOf x) ≤ 53 := bitLen_le _ 53 (by simpa using hml)
    have hbo : bitLen (oddOf (mantOf x)) = lenOf (mantOf x) := rfl
    unfold pMant pExp
    rw [if_neg hne, if_neg (by omega), hn, hbo]
    refine ⟨by omega, by omega, ?_, by omega, ?_, by have := odd_le (mantOf x); omega⟩
    · have e1 : (max (expOf x : Int) 1 - 1075 + (tzOf (mantOf x) : Int) + 1074).toNat = tzOf (mantOf x) + (max (expOf x) 1 - 1) := by omega
      rw [e1, Nat.pow_add, ← Nat.mul_assoc, es]
    · by_cases h0 : expOf x = 0
      · rw [h0]; omega
      · omega
end Go.Proofs.YtphdinjmkhefmaaGreatDoor

namespace Go.Proofs.YtphdinjmkhefmaaGreatDoor
open Go.RowKit Go.IntWalk

set_option maxRecDepth 4000 in
set_option maxHeartbeats 1000000 in
/-- From the fields to the parts, by odd's answer. -/
theorem rParts_core (x : Nat) (neg : Bool) (E F G e' m k : Int) (w : World) (hS : ∀ W, Calls Tryz.prog 61 #[.float .f64 x] W fun e w' => e = .returned (.tuple #[.bool neg, .int .i64 E, .int .u64 F]) ∧ w' = W) (hE0 : 0 ≤ E) (hE : E ≤ 2046) (hF0 : 0 ≤ F) (hF : F ≤ 4503599627370495) (hG : G = if 0 < E then F + 4503599627370496 else F) (he : e' = (if 0 < E then E - 1 else E) - 1074)
    (hO : ∀ W, Calls Tryz.prog 65 #[.int .u64 G, .int .i64 e'] W fun r w' => r = .returned (.tuple #[.int .u64 m, .int .i64 k]) ∧ w' = W) :
    Calls Tryz.prog 38 #[.float .f64 x] w fun r w' => r = .returned (.tuple #[.agg #[.bool neg, .int .u64 m, .int .i64 k], .int .i64 0]) ∧ Below w.heap.size w w' := by
  have HS := hid hS
  have HO := hid hO
  clear hS hO
  have hEn : ¬ E = 2047 := by omega
  by_cases h0 : 0 < E
  · rw [if_pos h0] at hG he
    have hw1 : IntKind.u64.wrap (F + 4503599627370496) = G := by rw [IntKind.wrap_u64]; omega
    have hw2 : F + 4503599627370496 = G := by omega
    have hw2' : IntKind.u64.wrap G = G := by rw [IntKind.wrap_u64]; omega
    have hw3 : IntKind.i64.wrap (E - 1) = E - 1 := by rw [IntWalk.i64_in _ (by omega)]
    have hw4 : IntKind.i64.wrap (E - 1 - 1074) = e' := by rw [IntWalk.i64_in _ (by omega)]; omega
    have hw5 : E - 1 - 1074 = e' := by omega
    have hw6 : wrap64 e' = e' := by unfold wrap64; omega
    have hw7 : IntKind.i64.wrap e' = e' := by rw [IntWalk.i64_in _ (by omega)]
    clear hG he hF hE hF0 hE0
    go_enter Tryz.func38, Tryz.ntmps38
    go_wp2_with fail
    refine (HS.out _).mono ?_
    rintro r w1 ⟨rfl, rfl⟩
    go_wp2_with fail
    refine (HO.out _).mono ?_
    rintro r w2 ⟨rfl, rfl⟩
    go_wp2
    exact bodyPost_ret (v := .tuple #[.agg #[.bool neg, .int .u64 m, .int .i64 k], .int .i64 0]) (by simp [results, Tryz.results38, go_sem]) rfl ⟨rfl, (Below.refl _ _).alloc (Nat.le_refl _) _⟩
  · rw [if_neg h0] at hG he
    have hE1 : E = 0 := by omega
    subst hE1
    subst hG
    have he2 : e' = -1074 := by omega
    subst he2
    clear he hF hE hF0 hE0 h0
    go_enter Tryz.func38, Tryz.ntmps38
    go_wp2_with fail
    refine (HS.out _).mono ?_
    rintro r w1 ⟨rfl, rfl⟩
    go_wp2_with fail
    refine (HO.out _).mono ?_
    rintro r w2 ⟨rfl, rfl⟩
    go_wp2
    exact bodyPost_ret (v := .tuple #[.agg #[.bool neg, .int .u64 m, .int .i64 k], .int .i64 0]) (by simp [results, Tryz.results38, go_sem]) rfl ⟨rfl, (Below.refl _ _).alloc (Nat.le_refl _) _⟩
set_option maxHeartbeats 1000000 in
theorem rParts_bad (x : Nat) (neg : Bool) (F : Int) (w : World) (hS : ∀ W, Calls Tryz.prog 61 #[.float .f64 x] W fun e w' => e = .returned (.tuple #[.bool neg, .int .i64 2047, .int .u64 F]) ∧ w' = W) :
    Calls Tryz.prog 38 #[.float .f64 x] w fun r w' => r = .returned (.tuple #[.agg #[.bool false, .int .u64 0, .int .i64 0], .int .i64 4]) ∧ Below w.heap.size w w' := by
  have HS := hid hS
  clear hS
  go_enter Tryz.func38, Tryz.ntmps38
  go_wp2_with fail
  refine (HS.out _).mono ?_
  rintro r w1 ⟨rfl, rfl⟩
  go_wp2
  exact bodyPost_ret (v := .tuple #[.agg #[.bool false, .int .u64 0, .int .i64 0], .int .i64 4]) (by simp [results, Tryz.results38, go_sem]) rfl ⟨rfl, (Below.refl _ _).alloc (Nat.le_refl _) _⟩
theorem rParts_any (x : Nat) (w : World) (hx : x < 18446744073709551616) :
    Calls Tryz.prog 38 #[.float .f64 x] w fun r w' => r = .returned (.tuple #[.agg #[.bool (pNeg x), .int .u64 (pMant x), .int .i64 (pExp x)], .int .i64 (pErr x)]) ∧ Below w.heap.size w w' := by
  have hS := fun (W : World) => rsplit_any x W hx
  have hel := exp_lt x
  have hfl := frac_lt x
  by_cases h : expOf x = 2047
  · have e1 : pNeg x = false := by unfold pNeg; rw [if_pos h]
    have e2 : pMant x = 0 := by unfold pMant; rw [if_pos h]
    have e3 : pExp x = 0 := by unfold pExp; rw [if_pos (Or.inl h)]
    have e4 : pErr x = 4 := by unfold pErr; rw [if_pos h]
    rw [h] at hS
    rw [e1, e2, e3, e4]
    exact rParts_bad x _ _ w hS
  · have e1 : pNeg x = negOf x := by unfold pNeg; rw [if_neg h]
    have e2 : pMant x = oddOf (mantOf x) := by unfold pMant; rw [if_neg h]
    have e4 : pErr x = 0 := by unfold pErr; rw [if_neg h]
    have hml := mant_lt x
    rw [e1, e2, e4]
    have hG : (mantOf x : Int) = if (0 : Int) < (expOf x : Int) then (fracOf x : Int) + 4503599627370496 else (fracOf x : Int) := by
      unfold mantOf
      split <;> split <;> omega
    by_cases h0 : mantOf x = 0
    · have e3 : pExp x = 0 := by unfold pExp; rw [if_pos (Or.inr h0)]
      have e5 : oddOf (mantOf x) = 0 := by rw [h0]; exact Nat.zero_div _
      rw [e3, e5]
      refine rParts_core x _ (expOf x) (fracOf x) (mantOf x) _ 0 0 w hS (by omega) (by omega) (by omega) (by omega) hG rfl (fun W => ?_)
      rw [h0]
      exact rodd_zero _ W
    · have e3 : pExp x = (if (0 : Int) < (expOf x : Int) then (expOf x : Int) - 1 else (expOf x : Int)) - 1074 + (tzOf (mantOf x) : Int) := by
        unfold pExp
        rw [if_neg (by omega)]
        split <;> omega
      rw [e3]
      exact rParts_core x _ (expOf x) (fracOf x) (mantOf x) _ _ _ w hS (by omega) (by omega) (by omega) (by omega) hG rfl (fun W => rodd_any (mantOf x) _ W (by omega) h0 (by split <;> omega) (by split <;> omega))
end Go.Proofs.YtphdinjmkhefmaaGreatDoor

namespace Go.Proofs.YtphdinjmkhefmaaGreatDoor
open Go

def natL : List Nat → Nat
  | [] => 0
  | d :: t => d + 4294967296 * natL t
/-- All words fit; the last one isn't 0. -/
def DigL (L : List Nat) : Prop := ∀ d, d ∈ L → d < 4294967296
def CanL (L : List Nat) : Prop := L ≠ [] → L.getD (L.length - 1) 0 ≠ 0
theorem natL_append (A B : List Nat) : natL (A ++ B) = natL A + 4294967296 ^ A.length * natL B := by
  induction A with
  | nil => show natL B = 0 + 1 * natL B; omega
  | cons d t ih =>
    show d + 4294967296 * natL (t ++ B) = d + 4294967296 * natL t + 4294967296 ^ (t.length + 1) * natL B
    rw [ih, Nat.mul_add, Nat.pow_succ, Nat.mul_comm (4294967296 ^ t.length) 4294967296, Nat.mul_assoc]
    omega
theorem DigL.get {L : List Nat} (h : DigL L) (i : Nat) : L.getD i 0 < 4294967296 := by
  rw [List.getD_eq_getElem?_getD]
  cases hc : L[i]? with
  | none => decide
  | some d => exact h d (List.mem_of_getElem? hc)
theorem DigL.take {L : List Nat} (h : DigL L) (k : Nat) : DigL (L.take k) := fun d hd => h d (List.mem_of_mem_take hd)
theorem natL_lt (L : List Nat) (h : DigL L) : natL L < 4294967296 ^ L.length := by
  induction L with
  | nil => decide
  | cons d t ih =>
    have h1 := h d (List.mem_cons_self ..)
    have h2 := ih (fun e he => h e (List.mem_cons_of_mem _ he))
    show d + 4294967296 * natL t < 4294967296 ^ (t.length + 1)
    rw [Nat.pow_succ, Nat.mul_comm (4294967296 ^ t.length)]
    omega
theorem natL_take_succ (L : List Nat) (k : Nat) (h : k < L.length) : natL (L.take (k + 1)) = natL (L.take k) + 4294967296 ^ k * L.getD k 0 := by
  rw [List.take_succ_eq_append_getElem h, natL_append, List.length_take, Nat.min_eq_left (Nat.le_of_lt h)]
  congr 1
  show _ * (L[k] + 4294967296 * 0) = _
  rw [Nat.mul_zero, Nat.add_zero]
  simp [List.getD, h]
/-- Noughts at the end count for nothing. -/
theorem natL_take_zero (L : List Nat) (k : Nat) (h : k < L.length) (hz : L.getD k 0 = 0) : natL (L.take (k + 1)) = natL (L.take k) := by
  rw [natL_take_succ L k h, hz, Nat.mul_zero, Nat.add_zero]
/-- A list without noughts at its end is the only one of its value. -/
theorem natL_ge (L : List Nat) (h0 : L ≠ []) (hc : CanL L) : 4294967296 ^ (L.length - 1) ≤ natL L := by
  obtain ⟨k, hk⟩ : ∃ k, L.length = k + 1 := ⟨L.length - 1, by have := List.length_pos_iff.2 h0; omega⟩
  have e := natL_take_succ L k (by omega)
  rw [← hk, List.take_length] at e
  have hne := hc h0
  rw [hk] at hne ⊢
  rw [Nat.add_sub_cancel] at hne ⊢
  have : 4294967296 ^ k * 1 ≤ 4294967296 ^ k * L.getD k 0 := Nat.mul_le_mul_left _ (by omega)
  omega
theorem natL_zero (L : List Nat) (hc : CanL L) : natL L = 0 ↔ L = [] := by
  constructor
  · intro h
    apply Classical.byContradiction
    intro h0
    have := natL_ge L h0 hc
    have := Nat.pow_pos (n := L.length - 1) (show 0 < 4294967296 by decide)
    omega
  · intro h; rw [h]; rfl
end Go.Proofs.YtphdinjmkhefmaaGreatDoor
