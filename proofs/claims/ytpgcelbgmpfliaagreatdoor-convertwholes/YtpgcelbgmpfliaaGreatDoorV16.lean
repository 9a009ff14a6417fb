
/- Whole numbers as lists of words of 32 bits, the least ahead; no program is spoken of. -/
import Derived.Test.YtpgcelbgmpfliaaGreatDoorV15
import Derived.Test.YtpgcelbgmpfliaaGreatDoorV14
import Derived.Test.YtpgcelbgmpfliaaGreatDoorV1
namespace Go.Proofs.YtpgcelbgmpfliaaGreatDoor
open Go.RowKit Go.IntWalk

/-- The number that x times a power of 2 is rounded to; the whole number that x is rounded to. -/
def scaleOf (x : Nat) (k mode : Int) : Nat :=
  if 9218868437227405312 < x % 9223372036854775808 then 9221120237041090561 else if x % 9223372036854775808 = 9218868437227405312 ∨ x % 9223372036854775808 = 0 then x
  else signN (decide (9223372036854775808 ≤ x)) (rMag 53 (-1022) 1023 (pMant x) (pExp x + clampK k) mode (decide (9223372036854775808 ≤ x)))
def scaleFl (x : Nat) (k mode : Int) : Int :=
  if 9218868437227405312 ≤ x % 9223372036854775808 ∨ x % 9223372036854775808 = 0 then 0 else rFlag 53 (-1022) 1023 (pMant x) (pExp x + clampK k) mode (decide (9223372036854775808 ≤ x))
set_option maxHeartbeats 400000 in
theorem Whole_more (x : Nat) (mode : Int) (w : World) (hx : x < 18446744073709551616) (hm1 : 0 ≤ mode) (hm2 : mode ≤ 4) (h1 : pErr x = 0) (h2 : pExp x < 0) (h3 : -1200 ≤ pExp x) (hm0 : pMant x ≠ 0) (hm : pMant x < 9007199254740992) (hT : Tab w) (hs : 1 < w.heap.size) :
    Calls Tryz.prog 15 #[.float .f64 x, .int .i64 mode] w fun r w' => r = .returned (.tuple #[.float .f64 (signN (pNeg x) (wMag (stepQ (pMant x) (0 - pExp x) mode (pNeg x)) 0)), .int .i64 (if cutR (pMant x) (0 - pExp x) = 0 then 0 else 1), .int .i64 0]) ∧ Below w.heap.size w w' := by
  have hk : decide (0 ≤ mode ∧ mode ≤ 4) = true := decide_eq_true ⟨hm1, hm2⟩
  have HP := hid (fun (w : World) => Parts_any x w hx)
  have hcq : cutQ (pMant x) (0 - pExp x) ≤ pMant x := by unfold cutQ; rw [if_neg (by omega)]; exact Nat.div_le_self _ _
  have hst : stepQ (pMant x) (0 - pExp x) mode (pNeg x) ≤ 9007199254740992 := by unfold stepQ; split <;> omega
  have hbl := bitLen_le _ 54 (show stepQ (pMant x) (0 - pExp x) mode (pNeg x) < 2 ^ 54 by simp only [Nat.reducePow]; omega)
  have HSO := hid (fun (w : World) => stepsOf_any (pNeg x) (pMant x) (pExp x) 0 mode w (by omega) hm0 (by omega) (by omega) (by decide) (by decide) (by omega))
  have HOF := hid (fun (w : World) hT hs => Of_good64 (pNeg x) (stepQ (pMant x) (0 - pExp x) mode (pNeg x)) 0 w hst (by decide) (by omega) hT hs)
  rw [h1] at HP
  obtain ⟨F, hF⟩ : ∃ F : Int, Hid ((if cutR (pMant x) (0 - pExp x) = 0 then 0 else 1 : Int) = F) := ⟨_, rfl⟩
  obtain ⟨S, hS⟩ : ∃ S, Hid (stepQ (pMant x) (0 - pExp x) mode (pNeg x) = S) := ⟨_, rfl⟩
  rw [hF.out, hS.out] at HSO ⊢
  rw [hS.out] at HOF
  obtain ⟨N, HN⟩ : ∃ N, Hid (pNeg x = N) := ⟨_, rfl⟩
  obtain ⟨M, HM⟩ : ∃ M, Hid (pMant x = M) := ⟨_, rfl⟩
  obtain ⟨E, HE⟩ : ∃ E, Hid (pExp x = E) := ⟨_, rfl⟩
  rw [HN.out, HM.out, HE.out] at HP HSO
  rw [HN.out] at HOF ⊢
  rw [HE.out] at h2
  obtain ⟨X, HX⟩ : ∃ X, Hid (signN N (wMag S 0) = X) := ⟨_, rfl⟩
  rw [HX.out] at HOF ⊢
  clear hm1 hm2 hcq hst hbl hm0 hm h1 h3
  go_enter Tryz.func15, Tryz.ntmps15
  go_wp2_with fail
  refine (known_any mode _).mono ?_
  rintro e w1 ⟨rfl, rfl⟩
  rw [hk]
  clear hk
  go_wp2_with fail
  refine (HP.out _ hT hs).mono ?_
  rintro r w2 ⟨rfl, hb⟩
  have hB := hid hb
  have hz : w1.heap.size ≤ w2.heap.size := hb.size
  clear hb
  go_wp2_with fail
  refine (HSO.out _).mono ?_
  rintro r w3 ⟨rfl, hb3⟩
  obtain ⟨hcl, hf⟩ := bcell hb3
  have hz3 : w2.heap.size < w3.heap.size := by have := hb3.size; simp at this; omega
  have c0 : w3.cell? ⟨w2.heap.size, 0, none⟩ = some (.bool N) := by rw [hcl _ _ (by simp)]; simp [go_sem]
  have hB3 := hid (bl_then (bl_al hB.out _) hb3)
  clear hcl hf hb3
  go_wp2_with fail
  refine (HOF.out _ (hT.below hs hB3.out) (Nat.lt_of_lt_of_le hs hB3.out.size)).mono ?_
  rintro r w4 ⟨rfl, hb4⟩
  go_wp2
  go_ret3
  exact ⟨rfl, bl_then hB3.out hb4⟩
end Go.Proofs.YtpgcelbgmpfliaaGreatDoor

namespace Go.Proofs.YtpgcelbgmpfliaaGreatDoor
open Go Go.RowKit Go.IntWalk

theorem cutQ_scale (m k : Nat) (sh : Int) : cutQ (m * 2 ^ k) (sh + k) = cutQ m sh := by
  unfold cutQ
  by_cases h1 : sh + (k : Int) ≤ 0
  · rw [if_pos h1, if_pos (by omega), Nat.mul_assoc, ← Nat.pow_add]
    congr 2
    omega
  · rw [if_neg h1]
    by_cases h2 : sh ≤ 0
    · rw [if_pos h2]
      have e : k = (-sh).toNat + (sh + (k : Int)).toNat := by omega
      conv => lhs; arg 1; rw [e, Nat.pow_add, ← Nat.mul_assoc]
      rw [Nat.mul_div_cancel _ (Nat.two_pow_pos _)]
    · rw [if_neg h2]
      have e : (sh + (k : Int)).toNat = sh.toNat + k := by omega
      rw [e, Nat.pow_add, Nat.mul_div_mul_right _ _ (Nat.two_pow_pos k)]
theorem restN_scale2 (m k s : Nat) : restN (m * 2 ^ k) (s + k) = restN m s := by
  have hp := Nat.two_pow_pos k
  have e : (m * 2 ^ k) % 2 ^ (s + k) = (m % 2 ^ s) * 2 ^ k := by rw [Nat.pow_add, Nat.mul_mod_mul_right]
  have e2 : 2 ^ (s + k) = 2 ^ s * 2 ^ k := Nat.pow_add ..
  unfold restN
  rw [e, e2]
  have c1 : (m % 2 ^ s) * 2 ^ k = 0 ↔ m % 2 ^ s = 0 := by
    rw [Nat.mul_eq_zero]
    exact ⟨fun h => h.resolve_right (by omega), Or.inl⟩
  have c2 : 2 * ((m % 2 ^ s) * 2 ^ k) < 2 ^ s * 2 ^ k ↔ 2 * (m % 2 ^ s) < 2 ^ s := by
    rw [← Nat.mul_assoc]
    exact Nat.mul_lt_mul_right hp
  have c3 : 2 * ((m % 2 ^ s) * 2 ^ k) = 2 ^ s * 2 ^ k ↔ 2 * (m % 2 ^ s) = 2 ^ s := by
    rw [← Nat.mul_assoc]
    exact Nat.mul_right_cancel_iff hp
  simp only [c1, c2, c3]
theorem cutR_scale (m k : Nat) (sh : Int) : cutR (m * 2 ^ k) (sh + k) = cutR m sh := by
  unfold cutR
  by_cases h1 : sh + (k : Int) ≤ 0
  · rw [if_pos h1, if_pos (by omega)]
  · rw [if_neg h1]
    by_cases h2 : sh ≤ 0
    · rw [if_pos h2]
      have e : k = (-sh).toNat + (sh + (k : Int)).toNat := by omega
      rw [restN_zero]
      conv => lhs; arg 1; rw [e, Nat.pow_add, ← Nat.mul_assoc]
      exact Nat.mul_mod_left _ _
    · rw [if_neg h2]
      have e : (sh + (k : Int)).toNat = sh.toNat + k := by omega
      rw [e, restN_scale2]
theorem stepQ_scale2 (m k : Nat) (sh mode : Int) (neg : Bool) : stepQ (m * 2 ^ k) (sh + k) mode neg = stepQ m sh mode neg := by
  unfold stepQ
  rw [cutQ_scale, cutR_scale]
theorem rTop_scale (m k : Nat) (e : Int) (h0 : m ≠ 0) : rTop (m * 2 ^ k) (e - k) = rTop m e := by
  unfold rTop
  rw [bitLen_mul_pow m k h0]
  omega
theorem rnd_scale (P L H : Int) (m k : Nat) (e mode : Int) (neg : Bool) (h0 : m ≠ 0) : rUnit P L (m * 2 ^ k) (e - k) = rUnit P L m e ∧ rSteps P L (m * 2 ^ k) (e - k) mode neg = rSteps P L m e mode neg ∧ rFlag P L H (m * 2 ^ k) (e - k) mode neg = rFlag P L H m e mode neg ∧ (rOver P L H (m * 2 ^ k) (e - k) mode neg ↔ rOver P L H m e mode neg) := by
  have hT := rTop_scale m k e h0
  have hU : rUnit P L (m * 2 ^ k) (e - k) = rUnit P L m e := by unfold rUnit; rw [hT]
  have e1 : rUnit P L m e - (e - (k : Int)) = rUnit P L m e - e + (k : Int) := by omega
  have hS : rSteps P L (m * 2 ^ k) (e - k) mode neg = rSteps P L m e mode neg := by
    unfold rSteps; rw [hU, e1, stepQ_scale2]
  have hO : rOver P L H (m * 2 ^ k) (e - k) mode neg ↔ rOver P L H m e mode neg := by unfold rOver; rw [hU, hS]
  refine ⟨hU, hS, ?_, hO⟩
  unfold rFlag
  rw [hU, hT, e1, cutR_scale]
  by_cases c : rOver P L H m e mode neg
  · rw [if_pos c, if_pos (hO.2 c)]
  · rw [if_neg c, if_neg (fun d => c (hO.1 d))]
end Go.Proofs.YtpgcelbgmpfliaaGreatDoor

namespace Go.Proofs.YtpgcelbgmpfliaaGreatDoor
open Go

def natL : List Nat → Nat
  | [] => 0
  | d :: t => d + 4294967296 * natL t
/-- All words fit; the last one isn't 0. -/
def DigL (L : List Nat) : Prop := ∀ d, d ∈ L → d < 4294967296
def CanL (L : List Nat) : Prop := L ≠ [] → L.getD (L.length - 1) 0 ≠ 0
theorem natL_append (A B : List Nat) : natL (A ++ B) = natL A + 4294967296 ^ A.length * natL B := by
  induction A with
  | nil => show natL B = 0 + 1 * natL B; omega
  | cons d t ih =>
    show d + 4294967296 * natL (t ++ B) = d + 4294967296 * natL t + 4294967296 ^ (t.length + 1) * natL B
    rw [ih, Nat.mul_add, Nat.pow_succ, Nat.mul_comm (4294967296 ^ t.length) 4294967296, Nat.mul_assoc]
    omega
theorem DigL.get {L : List Nat} (h : DigL L) (i : Nat) : L.getD i 0 < 4294967296 := by
  rw [List.getD_eq_getElem?_getD]
  cases hc : L[i]? with
  | none => decide
  | some d => exact h d (List.mem_of_getElem? hc)
theorem DigL.take {L : List Nat} (h : DigL L) (k : Nat) : DigL (L.take k) := fun d hd => h d (List.mem_of_mem_take hd)
theorem natL_lt (L : List Nat) (h : DigL L) : natL L < 4294967296 ^ L.length := by
  induction L with
  | nil => decide
  | cons d t ih =>
    have h1 := h d (List.mem_cons_self ..)
    have h2 := ih (fun e he => h e (List.mem_cons_of_mem _ he))
    show d + 4294967296 * natL t < 4294967296 ^ (t.length + 1)
    rw [Nat.pow_succ, Nat.mul_comm (4294967296 ^ t.length)]
    omega
theorem natL_take_succ (L : List Nat) (k : Nat) (h : k < L.length) : natL (L.take (k + 1)) = natL (L.take k) + 4294967296 ^ k * L.getD k 0 := by
  rw [List.take_succ_eq_append_getElem h, natL_append, List.length_take, Nat.min_eq_left (Nat.le_of_lt h)]
  congr 1
  show _ * (L[k] + 4294967296 * 0) = _
  rw [Nat.mul_zero, Nat.add_zero]
  simp [List.getD, h]
/-- Noughts at the end count for nothing. -/
theorem natL_take_zero (L : List Nat) (k : Nat) (h : k < L.length) (hz : L.getD k 0 = 0) : natL (L.take (k + 1)) = natL (L.take k) := by
  rw [natL_take_succ L k h, hz, Nat.mul_zero, Nat.add_zero]
/-- A list without noughts at its end is the only one of its value. -/
theorem natL_ge (L : List Nat) (h0 : L ≠ []) (hc : CanL L) : 4294967296 ^ (L.length - 1) ≤ natL L := by
  obtain ⟨k, hk⟩ : ∃ k, L.length = k + 1 := ⟨L.length - 1, by have := List.length_pos_iff.2 h0; omega⟩
  have e := natL_take_succ L k (by omega)
  rw [← hk, List.take_length] at e
  have hne := hc h0
  rw [hk] at hne ⊢
  rw [Nat.add_sub_cancel] at hne ⊢
  have : 4294967296 ^ k * 1 ≤ 4294967296 ^ k * L.getD k 0 := Nat.mul_le_mul_left _ (by omega)
  omega
theorem natL_zero (L : List Nat) (hc : CanL L) : natL L = 0 ↔ L = [] := by
  constructor
  · intro h
    apply Classical.byContradiction
    intro h0
    have := natL_ge L h0 hc
    have := Nat.pow_pos (n := L.length - 1) (show 0 < 4294967296 by decide)
    omega
  · intro h; rw [h]; rfl
end Go.Proofs.YtpgcelbgmpfliaaGreatDoor
