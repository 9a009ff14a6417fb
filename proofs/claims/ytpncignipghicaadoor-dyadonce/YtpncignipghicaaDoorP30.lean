
/- What is on the grid is not rounded, and what is not on it is told by the flags; no program is spoken of. -/
import Derived.Test.YtpncignipghicaaDoorCv
import Derived.Test.YtpncignipghicaaDoorDyL
namespace Go.Proofs.YtpncignipghicaaDoor
open Go Go.RowKit Go.IntWalk

theorem nv_inj {r s : Nat} (h : nv r = nv s) : r = s := by
  rcases Nat.lt_trichotomy r s with c | c | c
  · have := nv_lt c; omega
  · exact c
  · have := nv_lt c; omega
theorem nv_inj32 {r s : Nat} (h : nv32 r = nv32 s) : r = s := by
  rcases Nat.lt_trichotomy r s with c | c | c
  · have := nv_lt32 c; omega
  · exact c
  · have := nv_lt32 c; omega
theorem bitLen_mul_pow (m k : Nat) (h : m ≠ 0) : bitLen (m * 2 ^ k) = bitLen m + k := by
  unfold bitLen
  rw [if_neg h, if_neg (Nat.mul_ne_zero h (Nat.pos_iff_ne_zero.1 (Nat.two_pow_pos k))), log2_mul_pow m k h]
  omega
theorem bitLen_mono {a b : Nat} (h : a ≤ b) : bitLen a ≤ bitLen b := bitLen_le a _ (Nat.lt_of_le_of_lt h (bitLen_hi b))
theorem restN_zero {m s : Nat} : restN m s = 0 ↔ m % 2 ^ s = 0 := by
  unfold restN
  constructor
  · intro h
    apply Classical.byContradiction
    intro hc
    rw [if_neg hc] at h
    split at h
    · omega
    · split at h <;> omega
  · intro h; rw [if_pos h]
/-- Nothing is left over just if so many steps are what there was. -/
theorem step_value (m : Nat) (sh mode : Int) (neg : Bool) : cutR m sh = 0 ↔ stepQ m sh mode neg * 2 ^ sh.toNat = m * 2 ^ (-sh).toNat := by
  unfold stepQ
  by_cases hs : sh ≤ 0
  · have hr : cutR m sh = 0 := by unfold cutR; rw [if_pos hs]
    have hq : cutQ m sh = m * 2 ^ (-sh).toNat := by unfold cutQ; rw [if_pos hs]
    have e : sh.toNat = 0 := by omega
    rw [hr, hq, e]
    simp
  · have hq : cutQ m sh = m / 2 ^ sh.toNat := by unfold cutQ; rw [if_neg hs]
    have hr : cutR m sh = restN m sh.toNat := by unfold cutR; rw [if_neg hs]
    have e : (-sh).toNat = 0 := by omega
    have hd := Nat.div_add_mod m (2 ^ sh.toNat)
    have hl := Nat.mod_lt m (Nat.two_pow_pos sh.toNat)
    rw [hr, hq, e, Nat.pow_zero, Nat.mul_one]
    constructor
    · intro h
      rw [if_neg (fun c => c.1 h)]
      rw [restN_zero] at h
      rw [Nat.mul_comm, Nat.add_zero]
      omega
    · intro h
      rw [restN_zero]
      have h2 : (m / 2 ^ sh.toNat) * 2 ^ sh.toNat = 2 ^ sh.toNat * (m / 2 ^ sh.toNat) := Nat.mul_comm _ _
      split at h
      · rw [Nat.add_mul, Nat.one_mul] at h
        omega
      · rw [Nat.add_zero] at h
        omega
theorem flag_zero (P L H : Int) (m : Nat) (e mode : Int) (neg : Bool) : rFlag P L H m e mode neg = 0 ↔ ¬ rOver P L H m e mode neg ∧ cutR m (rUnit P L m e - e) = 0 := by
  unfold rFlag
  by_cases h : rOver P L H m e mode neg
  · rw [if_pos h]; exact ⟨fun c => by omega, fun c => absurd h c.1⟩
  · rw [if_neg h]
    by_cases h2 : cutR m (rUnit P L m e - e) = 0
    · rw [if_pos h2]; exact ⟨fun _ => ⟨h, h2⟩, fun _ => rfl⟩
    · rw [if_neg h2]
      refine ⟨fun c => ?_, fun c => absurd c.2 h2⟩
      split at c <;> omega
/-- What has room in the digits, from the least step on, is not rounded. -/
theorem fits_exact (P L H : Int) (m : Nat) (e mode : Int) (neg : Bool) (h0 : m ≠ 0) (hfit : (bitLen m : Int) ≤ P) (hlow : L - P + 1 ≤ e) (htop : e + (bitLen m : Int) - 1 ≤ H) :
    rFlag P L H m e mode neg = 0 ∧ ¬ rOver P L H m e mode neg ∧ rUnit P L m e ≤ e ∧ rSteps P L m e mode neg = m * 2 ^ (e - rUnit P L m e).toNat := by
  have hu : rUnit P L m e - e ≤ 0 := by unfold rUnit rTop; omega
  have hr : cutR m (rUnit P L m e - e) = 0 := by unfold cutR; rw [if_pos hu]
  have hs : rSteps P L m e mode neg = m * 2 ^ (e - rUnit P L m e).toNat := by
    unfold rSteps stepQ
    rw [if_neg (fun c => c.1 hr)]
    unfold cutQ
    have e1 : (-(rUnit P L m e - e)).toNat = (e - rUnit P L m e).toNat := by omega
    rw [if_pos hu, Nat.add_zero, e1]
  have ho : ¬ rOver P L H m e mode neg := by
    unfold rOver
    rw [hs, bitLen_mul_pow _ _ h0]
    omega
  exact ⟨(flag_zero P L H m e mode neg).2 ⟨ho, hr⟩, ho, by omega, hs⟩

/-- A number's value, by its parts. -/
theorem parts_val (x : Nat) (hf : x % 9223372036854775808 < 9218868437227405312) : expOf x ≠ 2047 ∧ negOf x = decide (9223372036854775808 ≤ x) ∧ canonOf x = x ∧ (mantOf x = 0 ↔ x % 9223372036854775808 = 0) ∧ (mantOf x ≠ 0 → pMant x ≠ 0 ∧ -1074 ≤ pExp x ∧ nv (x % 9223372036854775808) = pMant x * 2 ^ (pExp x + 1074).toNat ∧ bitLen (pMant x) ≤ 53 ∧ pExp x + (bitLen (pMant x) : Int) - 1 ≤ 1023 ∧ pMant x < 18446744073709551616) := by
  have hc : canonOf x = x := by unfold canonOf; rw [if_neg (by omega)]
  have he : expOf x = x % 9223372036854775808 / 4503599627370496 := by unfold expOf; rw [hc]; omega
  have hfr : fracOf x = x % 9223372036854775808 % 4503599627370496 := by unfold fracOf; rw [hc]; omega
  have hne : expOf x ≠ 2047 := by omega
  refine ⟨hne, by unfold negOf; rw [hc], hc, ?_, ?_⟩
  · unfold mantOf
    split <;> omega
  · intro hm
    have hml := mant_lt x
    have hm64 : mantOf x < 18446744073709551616 := by omega
    obtain ⟨q, hq, hmq⟩ := odd_spec _ hm hm64
    have es : oddOf (mantOf x) * 2 ^ tzOf (mantOf x) = mantOf x := by rw [hq, Nat.mul_comm]; exact hmq.symm
    have hn : nv (x % 9223372036854775808) = mantOf x * 2 ^ (max (expOf x) 1 - 1) := by
      unfold nv mantOf
      rw [hfr, he]
      by_cases hs : x % 9223372036854775808 < 4503599627370496
      · have e0 : x % 9223372036854775808 / 4503599627370496 = 0 := by omega
        rw [if_pos hs, e0, if_neg (by omega), Nat.mod_eq_of_lt hs]
        simp
      · have e0 : max (x % 9223372036854775808 / 4503599627370496) 1 = x % 9223372036854775808 / 4503599627370496 := by omega
        rw [if_neg hs, if_pos (by omega), e0, Nat.add_comm]
    have hl1 := tz_len _ hm hm64
    have hbl : bitLen (mantOf x) ≤ 53 := bitLen_le _ 53 (by simpa using hml)
    have hbo : bitLen (oddOf (mantOf x)) = lenOf (mantOf x) := rfl
    unfold pMant pExp
    rw [if_neg hne, if_neg (by omega), hn, hbo]
    refine ⟨by omega, by omega, ?_, by omega, ?_, by have := odd_le (mantOf x); omega⟩
    · have e1 : (max (expOf x : Int) 1 - 1075 + (tzOf (mantOf x) : Int) + 1074).toNat = tzOf (mantOf x) + (max (expOf x) 1 - 1) := by omega
      rw [e1, Nat.pow_add, ← Nat.mul_assoc, es]
    · by_cases h0 : expOf x = 0
      · rw [h0]; omega
      · omega
end Go.Proofs.YtpncignipghicaaDoor

namespace Go.Proofs.YtpncignipghicaaDoor
open Go.RowKit Go.IntWalk

/-- A variable that holds a dyad. -/
def DyVar (W : World) (b : Nat) (neg : Bool) (a : Option Addr) (n cap : Nat) (e' z e : Int) : Prop := W.heap[b]? = some (DyBox neg a n cap e') ∧ DyAt W neg a n cap e' z e
theorem DyVar.below {W W' : World} {b : Nat} {neg : Bool} {a : Option Addr} {n cap : Nat} {e' z e : Int} (h : DyVar W b neg a n cap e' z e) (hb : Below W.heap.size W W') : DyVar W' b neg a n cap e' z e :=
  ⟨by rw [hb.block b (Array.getElem?_eq_some_iff.1 h.1).1]; exact h.1, h.2.below hb⟩
theorem DyVar.new {Z e e' : Int} {B : Nat} {neg : Bool} {a : Option Addr} {n cap : Nat} {w : World} (h : DyRet Z e B neg a n cap e' w) : DyVar (w.alloc (DyBox neg a n cap e')) w.heap.size neg a n cap e' Z e :=
  ⟨new_blk _ _ _ rfl, h.at.below ((Below.refl _ _).alloc (Nat.le_refl _) _)⟩
theorem DyVar.cells {W : World} {b : Nat} {neg : Bool} {a : Option Addr} {n cap : Nat} {e' z e : Int} (h : DyVar W b neg a n cap e' z e) : W.cell? ⟨b, 0, none⟩ = some (.bool neg) ∧ W.cell? ⟨b, 1, none⟩ = some (.slice a n cap) ∧ W.cell? ⟨b, 2, none⟩ = some (.int .i64 e') := dcells_of h.1
theorem abs_add {a b : Int} {n : Nat} (ha : a.natAbs < 2 ^ n) (hb : b.natAbs < 2 ^ n) : (a + b).natAbs < 2 ^ (n + 1) := by
  have := Int.natAbs_add_le a b
  rw [Nat.pow_succ]
  omega
theorem abs_mul {a b : Int} {n m : Nat} (ha : a.natAbs < 2 ^ n) (hb : b.natAbs < 2 ^ m) : (a * b).natAbs < 2 ^ (n + m) := by
  rw [Int.natAbs_mul, Nat.pow_add]
  have h1 : a.natAbs * b.natAbs ≤ a.natAbs * 2 ^ m := Nat.mul_le_mul_left _ (Nat.le_of_lt hb)
  have h2 : a.natAbs * 2 ^ m < 2 ^ n * 2 ^ m := Nat.mul_lt_mul_of_pos_right ha (Nat.two_pow_pos m)
  omega
theorem abs_more {a : Int} {n m : Nat} (ha : a.natAbs < 2 ^ n) (h : n ≤ m) : a.natAbs < 2 ^ m := Nat.lt_of_lt_of_le ha (Nat.pow_le_pow_right (by decide) h)
def kN : Nat := 2098
theorem kN_is : kN = 2098 := rfl
/-- A finite number in steps of 2^-1074. -/
theorem sv_parts (x : Nat) (hf : x % 9223372036854775808 < 9218868437227405312) : ∃ k : Nat, sgnN (pNeg x) (pMant x) * 2 ^ k = sv x ∧ pExp x - k = -1074 ∧ (sv x).natAbs < 2 ^ kN ∧ pErr x = 0 ∧ -1074 ≤ pExp x ∧ pExp x ≤ 2000 ∧ pMant x < 18446744073709551616 := by
  obtain ⟨v1, v2, v3, v4, v5⟩ := parts_val x hf
  have hN : pNeg x = decide (9223372036854775808 ≤ x) := by unfold pNeg; rw [if_neg v1, v2]
  have hE : pErr x = 0 := by unfold pErr; rw [if_neg v1]
  have hsv : sv x = sgnN (pNeg x) (nv (x % 9223372036854775808)) := by
    unfold sv sgnN
    rw [hN]
    by_cases c : 9223372036854775808 ≤ x
    · rw [if_pos c, decide_eq_true c, if_pos rfl]
    · rw [if_neg c, decide_eq_false c, if_neg (by decide)]
  have habs : (sv x).natAbs = nv (x % 9223372036854775808) := by
    rw [hsv]
    unfold sgnN
    split <;> simp
  by_cases h0 : mantOf x = 0
  · have hx0 := v4.1 h0
    have hm : pMant x = 0 := by
      unfold pMant
      rw [if_neg v1, h0]
      exact Nat.zero_div _
    have hp : pExp x = 0 := by unfold pExp; rw [if_pos (Or.inr h0)]
    have hz : sv x = 0 := by
      rw [hsv, hx0, nv_zero]
      unfold sgnN
      split <;> rfl
    refine ⟨1074, ?_, by rw [hp]; rfl, ?_, hE, by rw [hp]; decide, by rw [hp]; decide, by rw [hm]; decide⟩
    · rw [hm, hz]
      have : sgnN (pNeg x) 0 = 0 := by unfold sgnN; split <;> rfl
      rw [this, Int.zero_mul]
    · rw [hz, Int.natAbs_zero]; exact Nat.two_pow_pos kN
  · obtain ⟨p1, p2, p3, p4, p5, p6⟩ := v5 h0
    have hbp := bitLen_pos p1
    refine ⟨(pExp x + 1074).toNat, ?_, by omega, ?_, hE, p2, by omega, p6⟩
    · rw [hsv, p3]
      obtain ⟨k, hk⟩ : ∃ k, (pExp x + 1074).toNat = k := ⟨_, rfl⟩
      rw [hk]
      unfold sgnN
      split
      · rw [Int.natCast_mul, Int.natCast_pow, Int.neg_mul]; rfl
      · rw [Int.natCast_mul, Int.natCast_pow]; rfl
    · rw [habs, p3]
      have h1 : pMant x < 2 ^ bitLen (pMant x) := bitLen_hi _
      have h2 : pMant x * 2 ^ (pExp x + 1074).toNat < 2 ^ bitLen (pMant x) * 2 ^ (pExp x + 1074).toNat := Nat.mul_lt_mul_of_pos_right h1 (Nat.two_pow_pos _)
      rw [← Nat.pow_add] at h2
      have hk := kN_is
      exact Nat.lt_of_lt_of_le h2 (Nat.pow_le_pow_right (by decide) (by omega))
/-- dyad's Of of a finite number. -/
theorem Of_fin (x : Nat) (w : World) (hx : x < 18446744073709551616) (hf : x % 9223372036854775808 < 9218868437227405312) (hT : Tab w) (hg : 2 < w.heap.size) (hT3 : Tab32 w) (hs : 1 < w.heap.size) :
    Calls Tryd.prog 9 #[.float .f64 x] w fun r w' => DyOut (sv x) (-1074) w.heap.size r w' ∧ Below w.heap.size w w' := by
  obtain ⟨k, k1, k2, k3, k4, k5, k6, k7⟩ := sv_parts x hf
  refine (Of_parts x (pMant x) (pNeg x) (pExp x) w k7 (by omega) (by omega) hT3 hs (fun W hW => ?_)).mono ?_
  · have := Parts_any x W hx (hT.below hg hW) (Nat.lt_of_lt_of_le hg hW.size)
    rw [k4] at this
    exact this
  · rintro r w' ⟨ho, hb⟩
    have := ho.low k
    rw [k1, k2] at this
    exact ⟨this, hb⟩
set_option maxHeartbeats 400000 in
/-- Of what is not finite. -/
theorem Of_not (x : Nat) (w : World) (hx : x < 18446744073709551616) (he : pErr x = 4) (hT : Tab w) (hg : 2 < w.heap.size) :
    Calls Tryd.prog 9 #[.float .f64 x] w fun r w' => r = .returned (.tuple #[.agg #[.bool false, .slice none 0 0, .int .i64 0], .int .i64 4]) ∧ Below w.heap.size w w' := by
  have HP : Hid (∀ W, Below w.heap.size w W → Calls Tryd.prog 39 #[.float .f64 x] W fun r w' => r = .returned (.tuple #[.agg #[.bool (pNeg x), .int .u64 (pMant x), .int .i64 (pExp x)], .int .i64 4]) ∧ Below W.heap.size W w') := fun W hW => by
    have := Parts_any x W hx (hT.below hg hW) (Nat.lt_of_lt_of_le hg hW.size)
    rw [he] at this
    exact this
  obtain ⟨n, hn⟩ : ∃ n, Hid (pNeg x = n) := ⟨_, rfl⟩
  obtain ⟨m, hm⟩ : ∃ m, Hid (pMant x = m) := ⟨_, rfl⟩
  obtain ⟨E, hE⟩ : ∃ E, Hid (pExp x = E) := ⟨_, rfl⟩
  rw [hn.out, hm.out, hE.out] at HP
  clear hx he hT hg
  go_enter Tryd.func9, Tryd.ntmps9
  go_wp2_with fail
  refine (HP.out _ ((Below.refl _ _).alloc (Nat.le_refl _) _)).mono ?_
  rintro r w1 ⟨rfl, hb1⟩
  have hsz : w.heap.size < w1.heap.size := by have := hb1.size; simp at this; omega
  obtain ⟨hc, hf⟩ := bcell hb1
  have HB1 : Hid (Below w.heap.size w w1) := ((Below.refl _ _).alloc (Nat.le_refl _) _).trans (hb1.mono (by simp))
  clear hb1
  go_wp2
  exact bodyPost_ret (v := .tuple #[.agg #[.bool false, .slice none 0 0, .int .i64 0], .int .i64 4]) (by simp [results, Tryd.results9, go_sem, hc, hsz]) rfl ⟨rfl, Below.alloc (Below.setCell (Below.setCell (Below.setCell HB1.out (Nat.le_refl _) _) (Nat.le_refl _) _) (Nat.le_refl _) _) (by simp [World.setCell]; omega) _⟩
end Go.Proofs.YtpncignipghicaaDoor
