
/- The document's rounding to a format, in plain arithmetic: its bits are ours; no program is spoken of. -/
import Derived.Test.YtpgcelbgmpfliaaGreatDoorV13
namespace Go.Proofs.YtpgcelbgmpfliaaGreatDoor
open Go Go.RowKit Go.IntWalk

/-- What is left over, as the document counts it: -2 nothing, -1 less than a half, 0 a half, 1 more. -/
def cutC (m s : Nat) : Int := if m % 2 ^ s = 0 then -2 else if m % 2 ^ s < 2 ^ (s - 1) then -1 else if 2 ^ (s - 1) < m % 2 ^ s then 1 else 0
theorem cutC_rest (m s : Nat) (hs : 1 ≤ s) : cutC m s = (restN m s : Int) - 2 := by
  have h2 : 2 ^ s = 2 * 2 ^ (s - 1) := by rw [← Nat.pow_succ']; congr 1; omega
  unfold cutC restN
  obtain ⟨r, hr⟩ : ∃ r, m % 2 ^ s = r := ⟨_, rfl⟩
  rw [hr]
  rw [h2]
  split
  · rfl
  · split
    · rw [if_pos (by omega)]; rfl
    · split
      · rw [if_neg (by omega), if_neg (by omega)]; rfl
      · rw [if_neg (by omega), if_pos (by omega)]; rfl
/-- Whether what is cut off is taken away from 0, by the document. -/
def goesOf (neg : Bool) (odd : Bool) (R : Nat) (mode : Int) : Bool := decide (R ≠ 0) && growsOf mode neg odd R
theorem restN_le (m s : Nat) : restN m s ≤ 3 := by unfold restN; split <;> (try split) <;> (try split) <;> omega
theorem stepQ_goes (m : Nat) (sh mode : Int) (neg : Bool) : stepQ m sh mode neg = cutQ m sh + if goesOf neg (decide (cutQ m sh % 2 = 1)) (cutR m sh) mode = true then 1 else 0 := by
  unfold stepQ goesOf
  congr 1
  by_cases h : cutR m sh ≠ 0
  · rw [decide_eq_true h, Bool.true_and]
    by_cases g : growsOf mode neg (decide (cutQ m sh % 2 = 1)) (cutR m sh) = true
    · rw [if_pos ⟨h, g⟩, if_pos g]
    · rw [if_neg (fun c => g c.2), if_neg g]
  · rw [decide_eq_false h, Bool.false_and, if_neg (fun c => h c.1), if_neg (by decide)]
/-- The steps and the exponent behind a carry; the bits of the magnitude. -/
def docS (p s : Nat) : Nat := if p < bitLen s then s / 2 else s
def docU (p s : Nat) (u : Int) : Int := if p < bitLen s then u + 1 else u
def docMag (p : Nat) (low : Int) (s : Nat) (u : Int) : Nat := if bitLen (docS p s) < p then docS p s else (docU p s u - low + 1).toNat * 2 ^ (p - 1) + docS p s % 2 ^ (p - 1)
theorem docS_len (p s : Nat) (hs : s ≤ 2 ^ p) : (docU p s 0 = 0 ∧ docS p s = s ∧ bitLen s ≤ p) ∨ (docU p s 0 = 1 ∧ s = 2 ^ p ∧ docS p s = s / 2 ∧ bitLen s = p + 1) := by
  unfold docU docS
  by_cases h : p < bitLen s
  · right
    rw [if_pos h, if_pos h]
    have h2 : 2 ^ p ≤ s := by
      apply Classical.byContradiction
      intro c
      have := bitLen_le s p (by omega)
      omega
    have e : s = 2 ^ p := by omega
    exact ⟨rfl, e, rfl, by rw [e, bitLen_pow]⟩
  · left
    rw [if_neg h, if_neg h]
    exact ⟨rfl, rfl, by omega⟩
theorem docU_eq (p s : Nat) (u : Int) : docU p s u = u + docU p s 0 := by unfold docU; split <;> omega
theorem half_pow (p : Nat) (hp : 1 ≤ p) : 2 ^ p / 2 = 2 ^ (p - 1) := by
  have : 2 ^ p = 2 * 2 ^ (p - 1) := by rw [← Nat.pow_succ']; congr 1; omega
  omega
theorem doc_zero (p : Nat) (hp : 1 ≤ p) (low u : Int) : docMag p low 0 u = 0 := by
  have h0 : docS p 0 = 0 := by unfold docS; split <;> rfl
  unfold docMag
  rw [h0, bitLen_zero, if_pos (by omega)]
/-- Behind the carry: the digits and the value stay. -/
theorem doc_norm (p s : Nat) (u : Int) (hp : 1 ≤ p) (hs : s ≤ 2 ^ p) (h0 : s ≠ 0) (hu : 0 ≤ u) : docS p s * 2 ^ (docU p s u).toNat = s * 2 ^ u.toNat ∧ bitLen (docS p s) ≤ p ∧ docU p s u + (bitLen (docS p s) : Int) = u + (bitLen s : Int) ∧ u ≤ docU p s u ∧ docS p s ≠ 0 ∧ (bitLen (docS p s) < p → docU p s u = u ∧ docS p s = s) := by
  rw [docU_eq p s u]
  rcases docS_len p s hs with ⟨h1, h2, h3⟩ | ⟨h1, h2, h3, h4⟩
  · rw [h1, h2, Int.add_zero]
    exact ⟨rfl, h3, rfl, Int.le_refl _, h0, fun _ => ⟨rfl, rfl⟩⟩
  · have e2 : 2 ^ p = 2 ^ (p - 1) * 2 := by rw [← Nat.pow_succ]; congr 1; omega
    have e3 : docS p s = 2 ^ (p - 1) := by rw [h3, h2, half_pow p hp]
    have e4 : bitLen (docS p s) = p := by rw [e3, bitLen_pow]; omega
    rw [h1, e4]
    refine ⟨?_, Nat.le_refl _, by rw [h4]; omega, by omega, by rw [e3]; exact Nat.pos_iff_ne_zero.1 (Nat.two_pow_pos _), fun c => absurd c (Nat.lt_irrefl _)⟩
    have e5 : (u + 1).toNat = u.toNat + 1 := by omega
    rw [e3, e5, Nat.pow_succ, h2, e2, Nat.mul_assoc, Nat.mul_comm 2]
theorem top_digit (p s : Nat) (hp : 1 ≤ p) (h0 : s ≠ 0) (h : bitLen s = p) : 2 ^ (p - 1) + s % 2 ^ (p - 1) = s ∧ s % 2 ^ (p - 1) < 2 ^ (p - 1) := by
  have h1 := bitLen_lo h0
  have h2 := bitLen_hi s
  rw [h] at h1 h2
  have e2 : 2 ^ p = 2 ^ (p - 1) * 2 := by rw [← Nat.pow_succ]; congr 1; omega
  have hlt := Nat.mod_lt s (Nat.two_pow_pos (p - 1))
  have hd : s / 2 ^ (p - 1) = 1 := by
    apply Nat.div_eq_of_lt_le <;> omega
  have := Nat.div_add_mod s (2 ^ (p - 1))
  rw [hd] at this
  omega
theorem doc64 (s : Nat) (u : Int) (hs : s ≤ 9007199254740992) (hu : -1074 ≤ u) (hl : bitLen s < 53 → u = -1074) (ht : u + (bitLen s : Int) - 1 ≤ 1023) : docMag 53 (-1074) s u = wMag s u := by
  by_cases h0 : s = 0
  · subst h0
    rw [doc_zero 53 (by decide)]; unfold wMag; rw [if_pos rfl]
  · have hs' : s ≤ 2 ^ 53 := by simpa using hs
    obtain ⟨n1, n2, n3, n4, n5, n6⟩ := doc_norm 53 s (u + 1074) (by decide) hs' h0 (by omega)
    obtain ⟨g1, g2⟩ := good_val s u h0 hs hu ht
    apply nv_inj
    rw [g2, ← n1]
    have eU : docU 53 s u = docU 53 s (u + 1074) - 1074 := by rw [docU_eq 53 s u, docU_eq 53 s (u + 1074)]; omega
    unfold docMag
    rw [eU]
    obtain ⟨U, hU⟩ : ∃ U, docU 53 s (u + 1074) = U := ⟨_, rfl⟩
    obtain ⟨S, hS⟩ : ∃ S, docS 53 s = S := ⟨_, rfl⟩
    rw [hU, hS] at n3 n6
    rw [hU] at n4
    rw [hS] at n5 n2
    rw [hU, hS]
    by_cases hb : bitLen S < 53
    · rw [if_pos hb]
      obtain ⟨a1, a2⟩ := n6 hb
      have hlt : S < 4503599627370496 := by
        have h1 := bitLen_hi S
        have h2 : 2 ^ bitLen S ≤ 2 ^ 52 := Nat.pow_le_pow_right (by decide) (by omega)
        have h3 : (2 : Nat) ^ 52 = 4503599627370496 := by decide
        omega
      have hu0 : U = 0 := by
        have := hl (by rw [← a2]; exact hb)
        omega
      rw [hu0]
      unfold nv
      rw [if_pos hlt]
      show S = S * 2 ^ 0
      omega
    · rw [if_neg hb]
      have hb53 : bitLen S = 53 := by omega
      obtain ⟨t1, t2⟩ := top_digit 53 S (by decide) n5 hb53
      have e52 : (2 : Nat) ^ (53 - 1) = 4503599627370496 := by decide
      rw [e52] at t1 t2 ⊢
      have eX : (U - 1074 - -1074 + 1).toNat = U.toNat + 1 := by omega
      rw [eX]
      unfold nv
      rw [if_neg (by omega)]
      have ed : ((U.toNat + 1) * 4503599627370496 + S % 4503599627370496) / 4503599627370496 = U.toNat + 1 := by omega
      have em : ((U.toNat + 1) * 4503599627370496 + S % 4503599627370496) % 4503599627370496 = S % 4503599627370496 := by omega
      rw [ed, em, t1, Nat.add_sub_cancel]
theorem doc32 (s : Nat) (u : Int) (hs : s ≤ 16777216) (hu : -149 ≤ u) (hl : bitLen s < 24 → u = -149) (ht : u + (bitLen s : Int) - 1 ≤ 127) : docMag 24 (-149) s u = mag32 s u := by
  by_cases h0 : s = 0
  · subst h0
    rw [doc_zero 24 (by decide)]; unfold mag32; rw [if_pos rfl]
  · have hs' : s ≤ 2 ^ 24 := by simpa using hs
    obtain ⟨n1, n2, n3, n4, n5, n6⟩ := doc_norm 24 s (u + 149) (by decide) hs' h0 (by omega)
    obtain ⟨g1, g2⟩ := mag32_val s u h0 hs hu ht
    apply nv_inj32
    rw [g2, ← n1]
    have eU : docU 24 s u = docU 24 s (u + 149) - 149 := by rw [docU_eq 24 s u, docU_eq 24 s (u + 149)]; omega
    unfold docMag
    rw [eU]
    obtain ⟨U, hU⟩ : ∃ U, docU 24 s (u + 149) = U := ⟨_, rfl⟩
    obtain ⟨S, hS⟩ : ∃ S, docS 24 s = S := ⟨_, rfl⟩
    rw [hU, hS] at n3 n6
    rw [hU] at n4
    rw [hS] at n5 n2
    rw [hU, hS]
    by_cases hb : bitLen S < 24
    · rw [if_pos hb]
      obtain ⟨a1, a2⟩ := n6 hb
      have hlt : S < 8388608 := by
        have h1 := bitLen_hi S
        have h2 : 2 ^ bitLen S ≤ 2 ^ 23 := Nat.pow_le_pow_right (by decide) (by omega)
        have h3 : (2 : Nat) ^ 23 = 8388608 := by decide
        omega
      have hu0 : U = 0 := by
        have := hl (by rw [← a2]; exact hb)
        omega
      rw [hu0]
      unfold nv32
      rw [if_pos hlt]
      show S = S * 2 ^ 0
      omega
    · rw [if_neg hb]
      have hb53 : bitLen S = 24 := by omega
      obtain ⟨t1, t2⟩ := top_digit 24 S (by decide) n5 hb53
      have e52 : (2 : Nat) ^ (24 - 1) = 8388608 := by decide
      rw [e52] at t1 t2 ⊢
      have eX : (U - 149 - -149 + 1).toNat = U.toNat + 1 := by omega
      rw [eX]
      unfold nv32
      rw [if_neg (by omega)]
      have ed : ((U.toNat + 1) * 8388608 + S % 8388608) / 8388608 = U.toNat + 1 := by omega
      have em : ((U.toNat + 1) * 8388608 + S % 8388608) % 8388608 = S % 8388608 := by omega
      rw [ed, em, t1, Nat.add_sub_cancel]
end Go.Proofs.YtpgcelbgmpfliaaGreatDoor
