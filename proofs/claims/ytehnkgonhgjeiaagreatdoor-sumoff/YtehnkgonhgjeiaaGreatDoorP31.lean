
/- A finite number's dyad: its value in steps of 2^-1074; what dyad's Of answers for any number; variables that hold dyads. -/
import Derived.Test.YtehnkgonhgjeiaaGreatDoorP27
import Derived.Test.YtehnkgonhgjeiaaGreatDoorP15
import Derived.Test.YtehnkgonhgjeiaaGreatDoorP28
import Derived.Test.YtehnkgonhgjeiaaGreatDoorP25
namespace Go.Proofs.YtehnkgonhgjeiaaGreatDoor
open Go.RowKit Go.IntWalk

/-- A variable that holds a dyad. -/
def DyVar (W : World) (b : Nat) (neg : Bool) (a : Option Addr) (n cap : Nat) (e' z e : Int) : Prop := W.heap[b]? = some (DyBox neg a n cap e') ∧ DyAt W neg a n cap e' z e
theorem DyVar.below {W W' : World} {b : Nat} {neg : Bool} {a : Option Addr} {n cap : Nat} {e' z e : Int} (h : DyVar W b neg a n cap e' z e) (hb : Below W.heap.size W W') : DyVar W' b neg a n cap e' z e :=
  ⟨by rw [hb.block b (Array.getElem?_eq_some_iff.1 h.1).1]; exact h.1, h.2.below hb⟩
theorem DyVar.new {Z e e' : Int} {B : Nat} {neg : Bool} {a : Option Addr} {n cap : Nat} {w : World} (h : DyRet Z e B neg a n cap e' w) : DyVar (w.alloc (DyBox neg a n cap e')) w.heap.size neg a n cap e' Z e :=
  ⟨new_blk _ _ _ rfl, h.at.below ((Below.refl _ _).alloc (Nat.le_refl _) _)⟩
theorem DyVar.cells {W : World} {b : Nat} {neg : Bool} {a : Option Addr} {n cap : Nat} {e' z e : Int} (h : DyVar W b neg a n cap e' z e) : W.cell? ⟨b, 0, none⟩ = some (.bool neg) ∧ W.cell? ⟨b, 1, none⟩ = some (.slice a n cap) ∧ W.cell? ⟨b, 2, none⟩ = some (.int .i64 e') := dcells_of h.1
theorem abs_add {a b : Int} {n : Nat} (ha : a.natAbs < 2 ^ n) (hb : b.natAbs < 2 ^ n) : (a + b).natAbs < 2 ^ (n + 1) := by
  have := Int.natAbs_add_le a b
  rw [Nat.pow_succ]
  omega
theorem abs_mul {a b : Int} {n m : Nat} (ha : a.natAbs < 2 ^ n) (hb : b.natAbs < 2 ^ m) : (a * b).natAbs < 2 ^ (n + m) := by
  rw [Int.natAbs_mul, Nat.pow_add]
  have h1 : a.natAbs * b.natAbs ≤ a.natAbs * 2 ^ m := Nat.mul_le_mul_left _ (Nat.le_of_lt hb)
  have h2 : a.natAbs * 2 ^ m < 2 ^ n * 2 ^ m := Nat.mul_lt_mul_of_pos_right ha (Nat.two_pow_pos m)
  omega
theorem abs_more {a : Int} {n m : Nat} (ha : a.natAbs < 2 ^ n) (h : n ≤ m) : a.natAbs < 2 ^ m := Nat.lt_of_lt_of_le ha (Nat.pow_le_pow_right (by decide) h)
def kN : Nat := 2098
theorem kN_is : kN = 2098 := rfl
/-- A finite number in steps of 2^-1074. -/
theorem sv_parts (x : Nat) (hf : x % 9223372036854775808 < 9218868437227405312) : ∃ k : Nat, sgnN (pNeg x) (pMant x) * 2 ^ k = sv x ∧ pExp x - k = -1074 ∧ (sv x).natAbs < 2 ^ kN ∧ pErr x = 0 ∧ -1074 ≤ pExp x ∧ pExp x ≤ 2000 ∧ pMant x < 18446744073709551616 := by
  obtain ⟨v1, v2, v3, v4, v5⟩ := parts_val x hf
  have hN : pNeg x = decide (9223372036854775808 ≤ x) := by unfold pNeg; rw [if_neg v1, v2]
  have hE : pErr x = 0 := by unfold pErr; rw [if_neg v1]
  have hsv : sv x = sgnN (pNeg x) (nv (x % 9223372036854775808)) := by
    unfold sv sgnN
    rw [hN]
    by_cases c : 9223372036854775808 ≤ x
    · rw [if_pos c, decide_eq_true c, if_pos rfl]
    · rw [if_neg c, decide_eq_false c, if_neg (by decide)]
  have habs : (sv x).natAbs = nv (x % 9223372036854775808) := by
    rw [hsv]
    unfold sgnN
    split <;> simp
  by_cases h0 : mantOf x = 0
  · have hx0 := v4.1 h0
    have hm : pMant x = 0 := by
      unfold pMant
      rw [if_neg v1, h0]
      exact Nat.zero_div _
    have hp : pExp x = 0 := by unfold pExp; rw [if_pos (Or.inr h0)]
    have hz : sv x = 0 := by
      rw [hsv, hx0, nv_zero]
      unfold sgnN
      split <;> rfl
    refine ⟨1074, ?_, by rw [hp]; rfl, ?_, hE, by rw [hp]; decide, by rw [hp]; decide, by rw [hm]; decide⟩
    · rw [hm, hz]
      have : sgnN (pNeg x) 0 = 0 := by unfold sgnN; split <;> rfl
      rw [this, Int.zero_mul]
    · rw [hz, Int.natAbs_zero]; exact Nat.two_pow_pos kN
  · obtain ⟨p1, p2, p3, p4, p5, p6⟩ := v5 h0
    have hbp := bitLen_pos p1
    refine ⟨(pExp x + 1074).toNat, ?_, by omega, ?_, hE, p2, by omega, p6⟩
    · rw [hsv, p3]
      obtain ⟨k, hk⟩ : ∃ k, (pExp x + 1074).toNat = k := ⟨_, rfl⟩
      rw [hk]
      unfold sgnN
      split
      · rw [Int.natCast_mul, Int.natCast_pow, Int.neg_mul]; rfl
      · rw [Int.natCast_mul, Int.natCast_pow]; rfl
    · rw [habs, p3]
      have h1 : pMant x < 2 ^ bitLen (pMant x) := bitLen_hi _
      have h2 : pMant x * 2 ^ (pExp x + 1074).toNat < 2 ^ bitLen (pMant x) * 2 ^ (pExp x + 1074).toNat := Nat.mul_lt_mul_of_pos_right h1 (Nat.two_pow_pos _)
      rw [← Nat.pow_add] at h2
      have hk := kN_is
      exact Nat.lt_of_lt_of_le h2 (Nat.pow_le_pow_right (by decide) (by omega))
/-- dyad's Of of a finite number. -/
theorem Of_fin (x : Nat) (w : World) (hx : x < 18446744073709551616) (hf : x % 9223372036854775808 < 9218868437227405312) (hT : Tab w) (hg : 3 < w.heap.size) (hT3 : Tab32 w) (hs : 2 < w.heap.size) :
    Calls Tryz.prog 62 #[.float .f64 x] w fun r w' => DyOut (sv x) (-1074) w.heap.size r w' ∧ Below w.heap.size w w' := by
  obtain ⟨k, k1, k2, k3, k4, k5, k6, k7⟩ := sv_parts x hf
  refine (Of_parts x (pMant x) (pNeg x) (pExp x) w k7 (by omega) (by omega) hT3 hs (fun W hW => ?_)).mono ?_
  · have := Parts_any x W hx (hT.below hg hW) (Nat.lt_of_lt_of_le hg hW.size)
    rw [k4] at this
    exact this
  · rintro r w' ⟨ho, hb⟩
    have := ho.low k
    rw [k1, k2] at this
    exact ⟨this, hb⟩
set_option maxHeartbeats 400000 in
/-- Of what is not finite. -/
theorem Of_not (x : Nat) (w : World) (hx : x < 18446744073709551616) (he : pErr x = 4) (hT : Tab w) (hg : 3 < w.heap.size) :
    Calls Tryz.prog 62 #[.float .f64 x] w fun r w' => r = .returned (.tuple #[.agg #[.bool false, .slice none 0 0, .int .i64 0], .int .i64 4]) ∧ Below w.heap.size w w' := by
  have HP : Hid (∀ W, Below w.heap.size w W → Calls Tryz.prog 110 #[.float .f64 x] W fun r w' => r = .returned (.tuple #[.agg #[.bool (pNeg x), .int .u64 (pMant x), .int .i64 (pExp x)], .int .i64 4]) ∧ Below W.heap.size W w') := fun W hW => by
    have := Parts_any x W hx (hT.below hg hW) (Nat.lt_of_lt_of_le hg hW.size)
    rw [he] at this
    exact this
  obtain ⟨n, hn⟩ : ∃ n, Hid (pNeg x = n) := ⟨_, rfl⟩
  obtain ⟨m, hm⟩ : ∃ m, Hid (pMant x = m) := ⟨_, rfl⟩
  obtain ⟨E, hE⟩ : ∃ E, Hid (pExp x = E) := ⟨_, rfl⟩
  rw [hn.out, hm.out, hE.out] at HP
  clear hx he hT hg
  go_enter Tryz.func62, Tryz.ntmps62
  go_wp2_with fail
  refine (HP.out _ ((Below.refl _ _).alloc (Nat.le_refl _) _)).mono ?_
  rintro r w1 ⟨rfl, hb1⟩
  have hsz : w.heap.size < w1.heap.size := by have := hb1.size; simp at this; omega
  obtain ⟨hc, hf⟩ := bcell hb1
  have HB1 : Hid (Below w.heap.size w w1) := ((Below.refl _ _).alloc (Nat.le_refl _) _).trans (hb1.mono (by simp))
  clear hb1
  go_wp2
  exact bodyPost_ret (v := .tuple #[.agg #[.bool false, .slice none 0 0, .int .i64 0], .int .i64 4]) (by simp [results, Tryz.results62, go_sem, hc, hsz]) rfl ⟨rfl, Below.alloc (Below.setCell (Below.setCell (Below.setCell HB1.out (Nat.le_refl _) _) (Nat.le_refl _) _) (Nat.le_refl _) _) (by simp [World.setCell]; omega) _⟩
end Go.Proofs.YtehnkgonhgjeiaaGreatDoor

namespace Go.Proofs.YtehnkgonhgjeiaaGreatDoor
open Go.RowKit Go.IntWalk

/-- Whether all numbers of a list are finite. -/
def allFin (zs : List Nat) : Bool := zs.all fun z => !(expOf z == 2047)
theorem allFin_take (zs : List Nat) (k : Nat) (h : k < zs.length) : allFin (zs.take (k + 1)) = (allFin (zs.take k) && !(expOf (zs.getD k 0) == 2047)) := by
  unfold allFin
  rw [List.take_succ_eq_append_getElem h, List.all_append]
  simp [List.getD, h]
theorem allFin_false (zs : List Nat) (k : Nat) (h : allFin (zs.take k) = false) : allFin zs = false := by
  unfold allFin at *
  rw [← List.take_append_drop k zs, List.all_append, h]; rfl
theorem allFin_all (zs : List Nat) (k : Nat) (hk : zs.length ≤ k) (h : allFin (zs.take k) = true) : allFin zs = true := by
  rwa [List.take_of_length_le hk] at h
set_option maxHeartbeats 1000000 in
theorem Finite_any (zs : List Nat) (b off cap : Nat) (w : World) (hb : b < w.heap.size) (hcell : ∀ i, i < zs.length → w.cell? ⟨b, off + i, none⟩ = some (.float .f64 (zs.getD i 0))) (hz : ∀ i, i < zs.length → zs.getD i 0 < 18446744073709551616) (hn : zs.length ≤ 140737488355328) :
    Calls Tryz.prog 49 #[.slice (some ⟨b, off, none⟩) zs.length cap] w fun r w' => r = .returned (.bool (allFin zs)) ∧ Below w.heap.size w w' := by
  have HC := hid hcell
  have HZ := hid hz
  obtain ⟨n, hnl⟩ : ∃ n, Hid (zs.length = n) := ⟨_, rfl⟩
  rw [hnl.out] at hn ⊢
  clear hcell hz
  go_enter Tryz.func49, Tryz.ntmps49
  go_wp2
  go_loopw [10] (fun i wr => ∃ k : Nat, k ≤ n ∧ i = .int .i64 k ∧ Hid (allFin (zs.take k) = true) ∧ Below w.heap.size w wr) (fun i _ => n - (intOf i).toNat)
  case atStart => exact ⟨0, Nat.zero_le _, rfl, rfl, Below.refl _ _⟩
  case round =>
    obtain ⟨k, hkn, rfl, HA, hbr⟩ := hrel
    by_cases hlt : k < n
    · have hck : wr.cell? ⟨b, off + k, none⟩ = some (.float .f64 (zs.getD k 0)) := by
        rw [hbr.cell (p := ⟨b, off + k, none⟩) hb]
        exact HC.out k (by rw [hnl.out]; exact hlt)
      have HZK : Hid (zs.getD k 0 < 18446744073709551616) := HZ.out k (by rw [hnl.out]; exact hlt)
      have HTK : Hid (allFin (zs.take (k + 1)) = (allFin (zs.take k) && !(expOf (zs.getD k 0) == 2047))) := allFin_take zs k (by rw [hnl.out]; exact hlt)
      obtain ⟨z, hzz⟩ : ∃ z, Hid (zs.getD k 0 = z) := ⟨_, rfl⟩
      rw [hzz.out] at hck HZK HTK
      go_wp2_with (first | (go_at_call 93; refine (Split_any z _ HZK.out).mono ?_; rintro e w1 ⟨rfl, hb1⟩))
      · go_ret
        refine ⟨ret_bool (allFin_false zs (k + 1) ?_).symm, bl_then hbr hb1⟩
        have he : expOf z = 2047 := by have : ((expOf z : Int) == 2047) = true := by assumption
                                       rw [beq_iff_eq] at this
                                       omega
        rw [HTK.out, he]; simp
      · have he : (expOf z == 2047) = false := by
          have : ((expOf z : Int) == 2047) = false := by assumption
          rw [beq_eq_false_iff_ne] at this ⊢
          omega
        go_roundw
        case rel => exact ⟨k + 1, by omega, by go_num, by show allFin _ = true; rw [HTK.out, HA.out, he]; rfl, bl_then hbr hb1⟩
        case measure => simp [intOf]; omega
    · go_wp2
      go_ret
      exact ⟨ret_bool (allFin_all zs k (by rw [hnl.out]; omega) HA.out).symm, hbr⟩

set_option maxHeartbeats 1000000 in
theorem partsOf_dy (x : Nat) (w : World) (hx : x < 18446744073709551616) (hT : Tab w) (hg : 3 < w.heap.size) :
    Calls Tryz.prog 97 #[.float .f64 x] w fun r w' => r = .returned (.agg #[.bool (pNeg x), .int .u64 (pMant x), .int .i64 (pExp x)]) ∧ Below w.heap.size w w' := by
  have HP : Hid (∀ W, Below w.heap.size w W → Calls Tryz.prog 110 #[.float .f64 x] W fun r w' => r = .returned (.tuple #[.agg #[.bool (pNeg x), .int .u64 (pMant x), .int .i64 (pExp x)], .int .i64 (pErr x)]) ∧ Below W.heap.size W w') := fun W hW => Parts_any x W hx (hT.below hg hW) (Nat.lt_of_lt_of_le hg hW.size)
  obtain ⟨n, hn⟩ : ∃ n, Hid (pNeg x = n) := ⟨_, rfl⟩
  obtain ⟨m, hm⟩ : ∃ m, Hid (pMant x = m) := ⟨_, rfl⟩
  obtain ⟨E, hE⟩ : ∃ E, Hid (pExp x = E) := ⟨_, rfl⟩
  obtain ⟨R, hR⟩ : ∃ R, Hid (pErr x = R) := ⟨_, rfl⟩
  rw [hn.out, hm.out, hE.out, hR.out] at HP
  rw [hn.out, hm.out, hE.out]
  clear hx hT hg
  go_enter Tryz.func97, Tryz.ntmps97
  go_wp2_with fail
  refine (HP.out _ ((Below.refl _ _).alloc (Nat.le_refl _) _)).mono ?_
  rintro r w1 ⟨rfl, hb1⟩
  have hsz : w.heap.size < w1.heap.size := by have := hb1.size; simp at this; omega
  obtain ⟨hc, hf⟩ := bcell hb1
  have HB1 : Hid (Below w.heap.size w w1) := ((Below.refl _ _).alloc (Nat.le_refl _) _).trans (hb1.mono (by simp))
  clear hb1
  go_wp2
  exact bodyPost_ret (v := .agg #[.bool n, .int .u64 m, .int .i64 E]) (by simp [results, Tryz.results97, go_sem, hc, hsz]) rfl ⟨rfl, Below.alloc (Below.setCell (Below.setCell (Below.setCell HB1.out (Nat.le_refl _) _) (Nat.le_refl _) _) (Nat.le_refl _) _) (by simp [World.setCell]; omega) _⟩
def kT : Nat := 4196
theorem kT_is : kT = 4196 := rfl
/-- What is added up so far, in steps of 2^-2148. -/
def AccI (W0 : World) (t : Nat) (S : Int) (k : Nat) (wr : World) : Prop := ∃ o, TotAt wr t o ∧ (natF (seg 0 o) 134 : Int) - (natF (seg 134 o) 134 : Int) = S ∧ natF (seg 0 o) 134 ≤ k * 2 ^ kT ∧ natF (seg 134 o) 134 ≤ k * 2 ^ kT ∧ But t W0 wr
theorem AccI.below {W0 wr wr' : World} {t k : Nat} {S : Int} (h : AccI W0 t S k wr) (hb : Below wr.heap.size wr wr') : AccI W0 t S k wr' := by
  obtain ⟨o, h1, h2, h3, h4, h5⟩ := h
  exact ⟨o, ⟨h1.1.of_block (hb.block _ h1.1.lt), h1.2⟩, h2, h3, h4, h5.trans (But.of_below hb)⟩
theorem seg_other {b b' : Nat} {o o' : Nat → Nat} (h : ∀ j, (j < b ∨ b + 134 ≤ j) → o' j = o j) (hb : b' + 134 ≤ b ∨ b + 134 ≤ b') : natF (seg b' o') 134 = natF (seg b' o) 134 :=
  natF_congr _ _ 134 (fun j hj => h (b' + j) (by omega))
theorem acc_put (neg : Bool) (b lo hi N k : Nat) (E S : Int) (W0 w : World) (h : AccI W0 b S k w) (h1 : lo < 18446744073709551616) (h2 : hi < 18446744073709551616) (hE : E + 2148 = (N : Int)) (hN : N ≤ 4280) (hv : (lo + 18446744073709551616 * hi) * 2 ^ N < 2 ^ kT) (hk : k < 18446744073709551616) :
    Calls Tryz.prog 98 #[.pointer (some ⟨b, 0, none⟩), .bool neg, .int .u64 hi, .int .u64 lo, .int .i64 E] w fun r w' => r = .returned (.tuple #[]) ∧ AccI W0 b (S + sgnN neg ((lo + 18446744073709551616 * hi) * 2 ^ N)) (k + 1) w' := by
  obtain ⟨o, g1, g2, g3, g4, g5⟩ := h
  obtain ⟨V, hV⟩ : ∃ V, (lo + 18446744073709551616 * hi) * 2 ^ N = V := ⟨_, rfl⟩
  have hsplit : 32 * (N / 32) + N % 32 = N := by omega
  have hbig : (k + 1) * 2 ^ kT < 4294967296 ^ 134 := by
    rw [pow32]
    rw [show 32 * 134 = 92 + kT from rfl, Nat.pow_add]
    exact Nat.mul_lt_mul_of_pos_right (by have : (2 : Nat) ^ 92 = 4951760157141521099596496896 := by decide
                                          omega) (Nat.two_pow_pos _)
  have hput := put_tot neg b lo hi (N / 32) (N % 32) E o w g1 h1 h2 (by rw [hsplit]; exact hE) (Nat.mod_lt _ (by decide)) (by omega) (by
    rw [hsplit, hV]
    rw [hV] at hv
    rw [Nat.add_mul, Nat.one_mul] at hbig
    split <;> omega)
  rw [hsplit, hV] at hput
  rw [hV] at hv
  rw [hV]
  refine hput.mono ?_
  rintro r w' ⟨rfl, ⟨o', t1, t2, t3⟩, hb⟩
  refine ⟨rfl, o', t1, ?_⟩
  have hmul : (k + 1) * 2 ^ kT = k * 2 ^ kT + 2 ^ kT := by rw [Nat.add_mul, Nat.one_mul]
  rw [hmul]
  cases neg
  · simp only [Bool.false_eq_true, if_false] at t2 t3
    have e := seg_other (b' := 134) t3 (Or.inr (by decide))
    have es : sgnN false V = (V : Int) := by unfold sgnN; rw [if_neg (by decide)]
    rw [es, t2, e]
    exact ⟨by omega, by omega, by omega, g5.trans hb⟩
  · simp only [if_true] at t2 t3
    have e := seg_other (b' := 0) t3 (Or.inl (by decide))
    have es : sgnN true V = -(V : Int) := by unfold sgnN; rw [if_pos rfl]
    rw [es, t2, e]
    exact ⟨by omega, by omega, by omega, g5.trans hb⟩
end Go.Proofs.YtehnkgonhgjeiaaGreatDoor

namespace Go.Proofs.YtehnkgonhgjeiaaGreatDoor
open Go.RowKit Go.IntWalk

/-- The sum of a list's numbers, in steps of 2^-1074. -/
def sumSv (zs : List Nat) : Nat → Int
  | 0 => 0
  | k + 1 => sumSv zs k + sv (zs.getD k 0)
def kS : Nat := 1074
theorem kS_is : kS = 1074 := rfl
/-- A list of numbers in memory. -/
def NumsAt (w : World) (b off : Nat) (zs : List Nat) : Prop := b < w.heap.size ∧ ∀ i, i < zs.length → w.cell? ⟨b, off + i, none⟩ = some (.float .f64 (zs.getD i 0))
theorem NumsAt.below {w w' : World} {b off : Nat} {zs : List Nat} (h : NumsAt w b off zs) (hb : Below w.heap.size w w') : NumsAt w' b off zs :=
  ⟨Nat.lt_of_lt_of_le h.1 hb.size, fun i hi => by rw [hb.cell (p := ⟨b, off + i, none⟩) h.1]; exact h.2 i hi⟩
theorem NumsAt.but {w w' : World} {b off z : Nat} {zs : List Nat} (h : NumsAt w b off zs) (hb : But z w w') (hz : b ≠ z) : NumsAt w' b off zs :=
  ⟨Nat.lt_of_lt_of_le h.1 hb.size, fun i hi => hb.cell (h.2 i hi) hz⟩
def FinL (zs : List Nat) : Prop := ∀ i, i < zs.length → zs.getD i 0 < 18446744073709551616 ∧ zs.getD i 0 % 9223372036854775808 < 9218868437227405312
theorem exp_fin (x : Nat) (h : x % 9223372036854775808 < 9218868437227405312) : (expOf x == 2047) = false := by
  rw [beq_eq_false_iff_ne]
  unfold expOf canonOf
  split <;> omega
theorem fin_take (zs : List Nat) (h : FinL zs) : ∀ k, k ≤ zs.length → allFin (zs.take k) = true
  | 0, _ => rfl
  | k + 1, hk => by
    rw [allFin_take zs k hk, fin_take zs h k (by omega), exp_fin _ (h k hk).2]
    rfl
theorem fin_all (zs : List Nat) (h : FinL zs) : allFin zs = true := by
  have := fin_take zs h zs.length (Nat.le_refl _)
  rwa [List.take_of_length_le (Nat.le_refl _)] at this
/-- One number more. -/
theorem sum_put (zs : List Nat) (b k : Nat) (W0 w : World) (h : AccI W0 b (sumSv zs k * 2 ^ kS) k w) (hf : FinL zs) (hk : k < zs.length) (hn : zs.length < 18446744073709551616) :
    Calls Tryz.prog 98 #[.pointer (some ⟨b, 0, none⟩), .bool (pNeg (zs.getD k 0)), .int .u64 0, .int .u64 (pMant (zs.getD k 0)), .int .i64 (pExp (zs.getD k 0))] w fun r w' => r = .returned (.tuple #[]) ∧ AccI W0 b (sumSv zs (k + 1) * 2 ^ kS) (k + 1) w' := by
  obtain ⟨x1, x2⟩ := hf k hk
  obtain ⟨x, hx⟩ : ∃ x, zs.getD k 0 = x := ⟨_, rfl⟩
  have hs : sumSv zs (k + 1) = sumSv zs k + sv x := by rw [← hx]; rfl
  rw [hs]
  rw [hx] at x1 x2 ⊢
  obtain ⟨j, j1, j2, j3, j4, j5, j6, j7⟩ := sv_parts x x2
  have hkS := kS_is
  have habs : pMant x * 2 ^ j = (sv x).natAbs := by
    rw [← j1, Int.natAbs_mul, Int.natAbs_pow]
    congr 1
    unfold sgnN
    split <;> simp
  have hv : (pMant x + 18446744073709551616 * 0) * 2 ^ (j + kS) < 2 ^ kT := by
    rw [Nat.mul_zero, Nat.add_zero, Nat.pow_add, ← Nat.mul_assoc, habs]
    refine Nat.lt_of_lt_of_le (Nat.mul_lt_mul_of_pos_right j3 (Nat.two_pow_pos kS)) ?_
    rw [← Nat.pow_add]
    exact Nat.pow_le_pow_right (by decide) (by decide)
  have hp := acc_put (pNeg x) b (pMant x) 0 (j + kS) k (pExp x) _ W0 w h j7 (by decide) (by omega) (by omega) hv (by omega)
  refine hp.mono ?_
  rintro r w' ⟨rfl, ha⟩
  refine ⟨rfl, ?_⟩
  have e : sgnN (pNeg x) ((pMant x + 18446744073709551616 * 0) * 2 ^ (j + kS)) = sv x * 2 ^ kS := by
    rw [← j1, Nat.mul_zero, Nat.add_zero, Int.mul_assoc, ← Int.pow_add]
    unfold sgnN
    split
    · rw [Int.natCast_mul, Int.natCast_pow, Int.neg_mul]; rfl
    · rw [Int.natCast_mul, Int.natCast_pow]; rfl
  rw [e, ← Int.add_mul] at ha
  exact ha
set_option maxRecDepth 20000 in
theorem zero_tot : Tryz.zeroCells112 = Array.replicate 268 (.int .u32 0) := by rfl
/-- A new total. -/
theorem acc_new (w : World) : AccI (w.alloc (.cells Tryz.zeroCells112 112)) w.heap.size 0 0 (w.alloc (.cells Tryz.zeroCells112 112)) := by
  refine ⟨fun _ => 0, ⟨?_, fun _ => (by decide : 0 < 4294967296)⟩, ?_, ?_, ?_, But.refl _ _⟩
  · have := World.rowIs_alloc w (Array.replicate 268 (.int .u32 0)) 112 (fun _ => .int .u32 0) (fun i hi => by simp at hi; simp [hi])
    rw [Array.size_replicate] at this
    rw [zero_tot]
    exact this
  · show (natF (fun _ => 0) 134 : Int) - (natF (fun _ => 0) 134 : Int) = 0
    omega
  · show natF (fun _ => 0) 134 ≤ _
    rw [natF_zero]; exact Nat.zero_le _
  · show natF (fun _ => 0) 134 ≤ _
    rw [natF_zero]; exact Nat.zero_le _
/-- The end of an adding up. -/
theorem acc_end {W0 wr w : World} {t k : Nat} {S : Int} (h : AccI W0 t S k wr) (h0 : Below w.heap.size w W0) (ht : w.heap.size < t) (hbx : W0.heap[w.heap.size]? = some (DyBox false none 0 0 0)) (hT3 : Tab32 w) (hs : 2 < w.heap.size) :
    Calls Tryz.prog 99 #[.pointer (some ⟨t, 0, none⟩)] wr fun r w' => ∃ neg' a' n' cap' e' v0 v1 v2, r = .returned (.tuple #[.agg #[.bool neg', .slice a' n' cap', .int .i64 e'], .int .i64 0]) ∧ Hid (DyRet S (-2148) (w.heap.size + 1) neg' a' n' cap' e' w') ∧ Hid (Res w.heap.size wr w') ∧ Hid (Below w.heap.size w wr) ∧ (∀ o, w'.frozen? ⟨w.heap.size, o, none⟩ = false) ∧ w'.cell? ⟨w.heap.size, 0, none⟩ = some v0 ∧ w'.cell? ⟨w.heap.size, 1, none⟩ = some v1 ∧ w'.cell? ⟨w.heap.size, 2, none⟩ = some v2 := by
  obtain ⟨o, h1, h2, h3, h4, h5⟩ := h
  have hlt : w.heap.size < W0.heap.size := (Array.getElem?_eq_some_iff.1 hbx).1
  have hbw : Below w.heap.size w wr := h0.trans (h5.below (Nat.le_of_lt hlt) (Nat.le_of_lt ht))
  have hbx2 : wr.heap[w.heap.size]? = some (DyBox false none 0 0 0) := by rw [h5.block _ hlt (by omega)]; exact hbx
  refine (tdyad_any t o wr h1 (hT3.below hs hbw) (Nat.lt_of_lt_of_le hs hbw.size)).mono ?_
  rintro r w' ⟨ho, hb⟩
  rw [h2] at ho
  obtain ⟨neg', a', n', cap', e', rfl, hr⟩ := ho.ret
  have hres : Res w.heap.size wr w' := Res.call ⟨But.refl _ _, _, _, _, hbx2⟩ hb
  obtain ⟨f1, _, v0, v1, v2, f2, f3, f4⟩ := hres.facts
  have hlt2 : w.heap.size < wr.heap.size := (Array.getElem?_eq_some_iff.1 hbx2).1
  exact ⟨neg', a', n', cap', e', v0, v1, v2, rfl, DyOut.but hr (But.refl w.heap.size _) hlt2 hlt2, hres, hbw, f1, f2, f3, f4⟩
set_option maxRecDepth 8000 in
set_option maxHeartbeats 4000000 in
theorem Sum_fin (zs : List Nat) (b off cap : Nat) (w : World) (hm : NumsAt w b off zs) (hf : FinL zs) (hn : zs.length ≤ 140737488355328) (hT : Tab w) (hg : 3 < w.heap.size) (hT3 : Tab32 w) (hs : 2 < w.heap.size) :
    Calls Tryz.prog 51 #[.slice (some ⟨b, off, none⟩) zs.length cap] w fun r w' => DyOut (sumSv zs zs.length) (-1074) w.heap.size r w' ∧ Below w.heap.size w w' := by
  have HM := hid hm
  have HF := hid hf
  have HFI : Hid (∀ W, Below w.heap.size w W → Calls Tryz.prog 49 #[.slice (some ⟨b, off, none⟩) zs.length cap] W fun r w' => r = .returned (.bool true) ∧ Below W.heap.size W w') := fun W hW => by
    have hmW := hm.below hW
    have := Finite_any zs b off cap W hmW.1 hmW.2 (fun i hi => (hf i hi).1) hn
    rw [fin_all zs hf] at this
    exact this
  obtain ⟨n, hnl⟩ : ∃ n, Hid (zs.length = n) := ⟨_, rfl⟩
  rw [hnl.out] at HFI hn ⊢
  have HT := hid (And.intro hT (And.intro hg (And.intro hT3 hs)))
  have hblt := hm.1
  clear hm hf hT hg hT3 hs
  go_enter Tryz.func51, Tryz.ntmps51
  go_wp2_with fail
  refine (HFI.out _ ((Below.refl _ _).alloc (Nat.le_refl _) _)).mono ?_
  rintro r w1 ⟨rfl, hb1⟩
  have hsz : w.heap.size < w1.heap.size := by have := hb1.size; simp at this; omega
  have HBW1 : Hid (Below w.heap.size w w1) := ((Below.refl _ _).alloc (Nat.le_refl _) _).trans (hb1.mono (by simp))
  have hbx1 : w1.heap[w.heap.size]? = some (DyBox false none 0 0 0) := by rw [hb1.block _ (by simp)]; exact new_blk _ _ _ rfl
  have HA0 := hid (acc_new w1)
  obtain ⟨W0, hW0⟩ : ∃ W0, Hid (w1.alloc (.cells Tryz.zeroCells112 112) = W0) := ⟨_, rfl⟩
  have hW0' : w1.alloc (.cells Tryz.zeroCells112 112) = W0 := hW0.out
  rw [hW0'] at HA0
  have HB0 : Hid (Below w.heap.size w W0) := by rw [← hW0.out]; exact HBW1.out.alloc HBW1.out.size _
  have HX0 : Hid (W0.heap[w.heap.size]? = some (DyBox false none 0 0 0)) := by rw [← hW0.out]; show (w1.alloc _).heap[w.heap.size]? = _; rw [((Below.refl w1.heap.size w1).alloc (Nat.le_refl _) _).block _ hsz]; exact hbx1
  have HWR : Hid (∀ S k wr, Hid (AccI W0 w1.heap.size S k wr) → Below w.heap.size w wr ∧ NumsAt wr b off zs) := fun S k wr h => by
    obtain ⟨o, g1, g2, g3, g4, g5⟩ := h.out
    have hlt : w.heap.size ≤ W0.heap.size := HB0.out.size
    exact ⟨HB0.out.trans (g5.below hlt (Nat.le_of_lt hsz)), (HM.out.below HB0.out).but g5 (by omega)⟩
  have HPO : Hid (∀ W k, k < n → Below w.heap.size w W → Calls Tryz.prog 97 #[.float .f64 (zs.getD k 0)] W fun r w' => r = .returned (.agg #[.bool (pNeg (zs.getD k 0)), .int .u64 (pMant (zs.getD k 0)), .int .i64 (pExp (zs.getD k 0))]) ∧ Below W.heap.size W w') := fun W k hk hW => partsOf_dy _ W (HF.out k (by rw [hnl.out]; exact hk)).1 (HT.out.1.below HT.out.2.1 hW) (Nat.lt_of_lt_of_le HT.out.2.1 hW.size)
  have HEND : Hid (∀ wr, Hid (AccI W0 w1.heap.size (sumSv zs n * 2 ^ kS) n wr) → _) := fun wr h => acc_end h.out HB0.out hsz HX0.out HT.out.2.2.1 HT.out.2.2.2
  clear hb1 hbx1 HFI
  go_wp2
  go_loopw [14] (fun i wr => ∃ k : Nat, k ≤ n ∧ i = .int .i64 k ∧ Hid (AccI W0 w1.heap.size (sumSv zs k * 2 ^ kS) k wr)) (fun i _ => n - (intOf i).toNat)
  case atStart => exact ⟨0, Nat.zero_le _, rfl, by show AccI _ _ (0 * 2 ^ kS) _ _; rw [Int.zero_mul]; exact HA0.out⟩
  case round =>
    obtain ⟨k, hk, rfl, HA⟩ := hrel
    by_cases hlt : k < n
    · obtain ⟨hbw, hnm⟩ := HWR.out _ _ _ HA
      have HBW := hid hbw
      have hck := hnm.2 k (by rw [hnl.out]; exact hlt)
      have HP := hid (HPO.out wr k hlt hbw)
      have HPUT : Hid (∀ W, Hid (AccI W0 w1.heap.size (sumSv zs k * 2 ^ kS) k W) → Calls Tryz.prog 98 #[.pointer (some ⟨w1.heap.size, 0, none⟩), .bool (pNeg (zs.getD k 0)), .int .u64 0, .int .u64 (pMant (zs.getD k 0)), .int .i64 (pExp (zs.getD k 0))] W fun r w' => r = .returned (.tuple #[]) ∧ AccI W0 w1.heap.size (sumSv zs (k + 1) * 2 ^ kS) (k + 1) w') := fun W hW => sum_put zs w1.heap.size k W0 W hW.out HF.out (by rw [hnl.out]; exact hlt) (by rw [hnl.out]; omega)
      obtain ⟨N, hN⟩ : ∃ N, Hid (pNeg (zs.getD k 0) = N) := ⟨_, rfl⟩
      obtain ⟨m, hm⟩ : ∃ m, Hid (pMant (zs.getD k 0) = m) := ⟨_, rfl⟩
      obtain ⟨E, hE⟩ : ∃ E, Hid (pExp (zs.getD k 0) = E) := ⟨_, rfl⟩
      rw [hN.out, hm.out, hE.out] at HP HPUT
      obtain ⟨x, hx⟩ : ∃ x, Hid (zs.getD k 0 = x) := ⟨_, rfl⟩
      rw [hx.out] at hck HP
      have hkI : (k : Int) < (n : Int) := by omega
      have hk0 : (0 : Int) ≤ (k : Int) := by omega
      clear hbw hnm
      go_wp2_with fail
      refine HP.out.mono ?_
      rintro r w2 ⟨rfl, hb2⟩
      obtain ⟨V, hV⟩ : ∃ V, Hid (w2.alloc (.cells #[.bool N, .int .u64 m, .int .i64 E] 114) = V) := ⟨_, rfl⟩
      have hV' : w2.alloc (.cells #[.bool N, .int .u64 m, .int .i64 E] 114) = V := hV.out
      have HAV : Hid (AccI W0 w1.heap.size (sumSv zs k * 2 ^ kS) k V) := by rw [← hV.out]; exact HA.out.below (hb2.alloc hb2.size _)
      have hbp : V.heap[w2.heap.size]? = some (.cells #[.bool N, .int .u64 m, .int .i64 E] 114) := by rw [← hV.out]; exact new_blk _ _ _ rfl
      have y0 : V.cell? ⟨w2.heap.size, 0, none⟩ = some (.bool N) := by simp [World.cell?, hbp]
      have y1 : V.cell? ⟨w2.heap.size, 1, none⟩ = some (.int .u64 m) := by simp [World.cell?, hbp]
      have y2 : V.cell? ⟨w2.heap.size, 2, none⟩ = some (.int .i64 E) := by simp [World.cell?, hbp]
      clear hb2 hbp
      go_wp2_with fail
      refine (HPUT.out _ HAV).mono ?_
      rintro r w3 ⟨rfl, ha3⟩
      have HA3 := hid ha3
      clear ha3
      go_wp2
      refine ⟨⟨k + 1, by omega, by go_num, HA3⟩, ?_⟩
      simp [intOf]; omega
    · have hkn : k = n := by omega
      subst hkn
      go_wp2_with fail
      refine (HEND.out _ HA).mono ?_
      rintro r w3 ⟨neg', b', k', d', x', v0, v1, v2, rfl, HRT, HF3, HBB, fz, c0, c1', c2'⟩
      have HRT2 : Hid (DyRet (sumSv zs k) (-1074) (w.heap.size + 1) neg' b' k' d' x' w3) := DyOut.conv (i := 0) (j := kS) HRT.out (by rw [Int.pow_zero, Int.mul_one]) (by rw [kS_is]; rfl)
      go_wp2
      exact bodyPost_ret (v := .tuple #[.agg #[.bool neg', .slice b' k' d', .int .i64 x'], .int .i64 0]) (by simp [results, Tryz.results51, go_sem, c0, c1', c2']) rfl (res_end HBB.out (Nat.le_refl _) HRT2 HF3)
end Go.Proofs.YtehnkgonhgjeiaaGreatDoor

namespace Go.Proofs.YtehnkgonhgjeiaaGreatDoor
open Go.RowKit Go.IntWalk

set_option maxHeartbeats 1000000 in
theorem rallfin_any (zs : List Nat) (b off cap : Nat) (w : World) (hcell : ∀ i, i < zs.length → w.cell? ⟨b, off + i, none⟩ = some (.float .f64 (zs.getD i 0))) (hz : ∀ i, i < zs.length → zs.getD i 0 < 18446744073709551616) (hn : zs.length ≤ 140737488355328) :
    Calls Tryz.prog 31 #[.slice (some ⟨b, off, none⟩) zs.length cap] w fun r w' => r = .returned (.bool (allFin zs)) ∧ w' = w := by
  have HC := hid hcell
  have HZ := hid hz
  obtain ⟨n, hnl⟩ : ∃ n, Hid (zs.length = n) := ⟨_, rfl⟩
  rw [hnl.out] at hn ⊢
  clear hcell hz
  go_enter Tryz.func31, Tryz.ntmps31
  go_wp2
  go_loop [7] (fun i => ∃ k : Nat, k ≤ n ∧ i = .int .i64 k ∧ Hid (allFin (zs.take k) = true)) (fun i => n - (intOf i).toNat)
  case atStart => exact ⟨0, Nat.zero_le _, rfl, rfl⟩
  case round =>
    obtain ⟨k, hkn, rfl, HA⟩ := hrel
    by_cases hlt : k < n
    · have hck := HC.out k (by rw [hnl.out]; exact hlt)
      have HZK : Hid (zs.getD k 0 < 18446744073709551616) := HZ.out k (by rw [hnl.out]; exact hlt)
      have HTK : Hid (allFin (zs.take (k + 1)) = (allFin (zs.take k) && !(expOf (zs.getD k 0) == 2047))) := allFin_take zs k (by rw [hnl.out]; exact hlt)
      obtain ⟨z, hzz⟩ : ∃ z, Hid (zs.getD k 0 = z) := ⟨_, rfl⟩
      rw [hzz.out] at hck HZK HTK
      by_cases he : expOf z = 2047
      · have hq : (expOf z == 2047) = true := by rw [he]; rfl
        have HQ := hid hq
        clear he hq
        go_wp2_with (first | (go_at_call 65; refine (rfinite_any z _ HZK.out).mono ?_; rw [HQ.out]; rintro e w1 ⟨rfl, rfl⟩))
        go_ret
        exact ⟨ret_bool (allFin_false zs (k + 1) (by rw [HTK.out, HQ.out]; simp)).symm, rfl⟩
      · have HQ : Hid ((expOf z == 2047) = false) := by show (expOf z == 2047) = false; simpa using he
        clear he
        go_wp2_with (first | (go_at_call 65; refine (rfinite_any z _ HZK.out).mono ?_; rw [HQ.out]; rintro e w1 ⟨rfl, rfl⟩))
        go_round
        case rel => exact ⟨k + 1, by omega, by go_num, by show allFin _ = true; rw [HTK.out, HA.out, HQ.out]; rfl⟩
        case measure => simp [intOf]; omega
    · go_wp2
      go_ret
      exact ⟨ret_bool (allFin_all zs k (by rw [hnl.out]; omega) HA.out).symm, rfl⟩
end Go.Proofs.YtehnkgonhgjeiaaGreatDoor
