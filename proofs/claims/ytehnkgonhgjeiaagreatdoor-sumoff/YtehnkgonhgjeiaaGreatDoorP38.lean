
/- What math/bits' Mul64 does; one product more in dyad's total. -/
import Derived.Test.YtehnkgonhgjeiaaGreatDoorP31
import Derived.Lib.Mul64
import Derived.Laws.Bits64b
import Derived.Test.YtehnkgonhgjeiaaGreatDoorP2
namespace Go.Proofs.YtehnkgonhgjeiaaGreatDoor
open Go.RowKit Go.IntWalk

theorem low32 (a : Nat) (ha : a < 18446744073709551616) : bits .and .u64 (a : Int) 4294967295 = ((a % 4294967296 : Nat) : Int) := by
  have h := bits_and_u64_nat a 4294967295 ha (by omega)
  rw [show a &&& 4294967295 = a % 4294967296 from Nat.and_two_pow_sub_one_eq_mod a 32] at h
  exact h
theorem nat_quo (a : Nat) : (a : Int) / 4294967296 = ((a / 4294967296 : Nat) : Int) := by omega
theorem nat_mul (a b : Nat) : (a : Int) * (b : Int) = ((a * b : Nat) : Int) := (Int.natCast_mul a b).symm
theorem nat_add (a b : Nat) : (a : Int) + (b : Int) = ((a + b : Nat) : Int) := (Int.natCast_add a b).symm
theorem nat_wrap (a : Nat) : IntKind.u64.wrap (a : Int) = ((a % 18446744073709551616 : Nat) : Int) := by rw [IntKind.wrap_u64]; omega
theorem nat_in (a : Nat) (ha : a < 18446744073709551616) : IntKind.u64.wrap (a : Int) = (a : Int) := by rw [nat_wrap, Nat.mod_eq_of_lt ha]
/-- The sum of products of two lists' numbers, in steps of 2^-2148. -/
def dotSv (xs ys : List Nat) : Nat → Int
  | 0 => 0
  | k + 1 => dotSv xs ys k + sv (xs.getD k 0) * sv (ys.getD k 0)
theorem sgn_abs (n : Bool) (m j : Nat) (s : Int) (h : sgnN n m * 2 ^ j = s) : m * 2 ^ j = s.natAbs := by
  rw [← h, Int.natAbs_mul, Int.natAbs_pow]
  congr 1
  unfold sgnN
  split <;> simp
theorem sgn_prod (n1 n2 : Bool) (m1 m2 : Nat) : sgnN (n1 != n2) (m1 * m2) = sgnN n1 m1 * sgnN n2 m2 := by
  unfold sgnN
  cases n1 <;> cases n2 <;> simp [Int.mul_neg, Int.neg_mul]
theorem sgn_pow (n : Bool) (m j : Nat) : sgnN n (m * 2 ^ j) = sgnN n m * 2 ^ j := by
  unfold sgnN
  split
  · rw [Int.natCast_mul, Int.natCast_pow, Int.neg_mul]; rfl
  · rw [Int.natCast_mul, Int.natCast_pow]; rfl
theorem pexp_small (x : Nat) (hf : x % 9223372036854775808 < 9218868437227405312) : pExp x ≤ 1023 := by
  obtain ⟨v1, v2, v3, v4, v5⟩ := parts_val x hf
  by_cases h0 : mantOf x = 0
  · have hp : pExp x = 0 := by unfold pExp; rw [if_pos (Or.inr h0)]
    omega
  · obtain ⟨p1, p2, p3, p4, p5, p6⟩ := v5 h0
    have hbp := bitLen_pos p1
    omega
/-- One product more. -/
theorem dot_put (x y b k : Nat) (S : Int) (W0 w : World) (h : AccI W0 b S k w) (hx : x % 9223372036854775808 < 9218868437227405312) (hy : y % 9223372036854775808 < 9218868437227405312) (hk : k < 18446744073709551616) :
    Calls Tryz.prog 98 #[.pointer (some ⟨b, 0, none⟩), .bool (pNeg x != pNeg y), .int .u64 ((pMant x * pMant y / 18446744073709551616 : Nat) : Int), .int .u64 ((pMant x * pMant y % 18446744073709551616 : Nat) : Int), .int .i64 (pExp x + pExp y)] w fun r w' => r = .returned (.tuple #[]) ∧ AccI W0 b (S + sv x * sv y) (k + 1) w' := by
  obtain ⟨i, i1, i2, i3, i4, i5, i6, i7⟩ := sv_parts x hx
  obtain ⟨j, j1, j2, j3, j4, j5, j6, j7⟩ := sv_parts y hy
  have a1 := sgn_abs _ _ _ _ i1
  have a2 := sgn_abs _ _ _ _ j1
  have eV : pMant x * pMant y % 18446744073709551616 + 18446744073709551616 * (pMant x * pMant y / 18446744073709551616) = pMant x * pMant y := Nat.mod_add_div _ _
  have hlt : pMant x * pMant y < 18446744073709551616 * 18446744073709551616 := Nat.mul_lt_mul'' i7 j7
  have eP : pMant x * pMant y * 2 ^ (i + j) = pMant x * 2 ^ i * (pMant y * 2 ^ j) := by rw [Nat.pow_add, Nat.mul_mul_mul_comm]
  have hv : (pMant x * pMant y % 18446744073709551616 + 18446744073709551616 * (pMant x * pMant y / 18446744073709551616)) * 2 ^ (i + j) < 2 ^ kT := by
    rw [eV, eP, a1, a2]
    have h1 : (sv x).natAbs * (sv y).natAbs < 2 ^ kN * 2 ^ kN := Nat.mul_lt_mul'' i3 j3
    rw [← Nat.pow_add] at h1
    rw [show kT = kN + kN from rfl]
    exact h1
  have q1 := pexp_small x hx
  have q2 := pexp_small y hy
  have hp := acc_put (pNeg x != pNeg y) b (pMant x * pMant y % 18446744073709551616) (pMant x * pMant y / 18446744073709551616) (i + j) k (pExp x + pExp y) S W0 w h (Nat.mod_lt _ (by decide)) (Nat.div_lt_of_lt_mul hlt) (by omega) (by omega) hv hk
  refine hp.mono ?_
  rintro r w' ⟨rfl, ha⟩
  refine ⟨rfl, ?_⟩
  have e : sgnN (pNeg x != pNeg y) ((pMant x * pMant y % 18446744073709551616 + 18446744073709551616 * (pMant x * pMant y / 18446744073709551616)) * 2 ^ (i + j)) = sv x * sv y := by
    rw [eV, sgn_pow, sgn_prod, ← i1, ← j1, Int.pow_add]
    rw [Int.mul_assoc, Int.mul_assoc]
    congr 1
    rw [← Int.mul_assoc, ← Int.mul_assoc, Int.mul_comm (sgnN _ _) (2 ^ i)]
  rw [e] at ha
  exact ha
end Go.Proofs.YtehnkgonhgjeiaaGreatDoor

namespace Go.Proofs.YtehnkgonhgjeiaaGreatDoor
open Go.RowKit Go.IntWalk

theorem bw_al {B : Nat} {w W : World} (h : Hid (Below B w W)) (hB : Hid (B ≤ w.heap.size)) (o : Obj) : Hid (Below B w (W.alloc o)) := h.out.alloc (Nat.le_trans hB.out h.out.size) o
theorem bw_dr {B : Nat} {w W : World} (h : Hid (Below B w W)) : Hid (Below B w W.drew) := h.out.drew
theorem bw_st {B : Nat} {w W : World} (h : Hid (Below B w W)) (P : Nat) (hP : B ≤ P) (x y z : Value) : Hid (Below B w (((W.setCell ⟨P, 0, none⟩ x).setCell ⟨P, 1, none⟩ y).setCell ⟨P, 2, none⟩ z)) := Below.setCell (Below.setCell (Below.setCell h.out hP x) hP y) hP z
/-- Two places' parts. -/
def TwoP (V : World) (P Q : Nat) (N1 N2 : Bool) (m1 m2 : Nat) (E1 E2 : Int) : Prop := (V.cell? ⟨P, 0, none⟩ = some (.bool N1) ∧ V.cell? ⟨P, 1, none⟩ = some (.int .u64 m1) ∧ V.cell? ⟨P, 2, none⟩ = some (.int .i64 E1)) ∧ (V.cell? ⟨Q, 0, none⟩ = some (.bool N2) ∧ V.cell? ⟨Q, 1, none⟩ = some (.int .u64 m2) ∧ V.cell? ⟨Q, 2, none⟩ = some (.int .i64 E2))
theorem wp_two {R : Exit → Act → World → Prop} {e : Exit} {a : Act} {W w : World} {B : Nat} {N1 N2 : Bool} {m1 m2 : Nat} {E1 E2 : Int} (p q : Nat) (k : ∀ V, TwoP V p q N1 N2 m1 m2 E1 E2 → Hid (Below B w V) → R e a V) (_h9 : a.eval (.tmp 9) = .pointer (some ⟨p, 0, none⟩)) (_h10 : a.eval (.tmp 10) = .pointer (some ⟨q, 0, none⟩)) (h : TwoP W p q N1 N2 m1 m2 E1 E2) (hb : Hid (Below B w W)) : R e a W := k W h hb
end Go.Proofs.YtehnkgonhgjeiaaGreatDoor

namespace Go.Proofs.YtehnkgonhgjeiaaGreatDoor
open Go.RowKit Go.IntWalk

def BitL (zs : List Nat) : Prop := ∀ i, i < zs.length → zs.getD i 0 < 18446744073709551616
set_option maxHeartbeats 1000000 in
theorem Sum_bad (zs : List Nat) (b off cap : Nat) (w : World) (hm : NumsAt w b off zs) (hz : BitL zs) (hf : allFin zs = false) (hn : zs.length ≤ 140737488355328) :
    Calls Tryz.prog 51 #[.slice (some ⟨b, off, none⟩) zs.length cap] w fun r w' => r = .returned (.tuple #[.agg #[.bool false, .slice none 0 0, .int .i64 0], .int .i64 4]) ∧ Below w.heap.size w w' := by
  have HFI : Hid (∀ W, Below w.heap.size w W → Calls Tryz.prog 49 #[.slice (some ⟨b, off, none⟩) zs.length cap] W fun r w' => r = .returned (.bool false) ∧ Below W.heap.size W w') := fun W hW => by
    have hmW := hm.below hW
    have := Finite_any zs b off cap W hmW.1 hmW.2 hz hn
    rw [hf] at this
    exact this
  obtain ⟨n, hnl⟩ : ∃ n, Hid (zs.length = n) := ⟨_, rfl⟩
  rw [hnl.out] at HFI ⊢
  clear hm hz hf hn
  go_enter Tryz.func51, Tryz.ntmps51
  go_wp2_with fail
  refine (HFI.out _ ((Below.refl _ _).alloc (Nat.le_refl _) _)).mono ?_
  rintro r w1 ⟨rfl, hb1⟩
  have hsz : w.heap.size < w1.heap.size := by have := hb1.size; simp at this; omega
  obtain ⟨hc, hf⟩ := bcell hb1
  have HB1 : Hid (Below w.heap.size w w1) := ((Below.refl _ _).alloc (Nat.le_refl _) _).trans (hb1.mono (by simp))
  clear hb1
  go_wp2
  exact bodyPost_ret (v := .tuple #[.agg #[.bool false, .slice none 0 0, .int .i64 0], .int .i64 4]) (by simp [results, Tryz.results51, go_sem, hc]) rfl ⟨rfl, Below.setCell (Below.setCell (Below.setCell HB1.out (Nat.le_refl _) _) (Nat.le_refl _) _) (Nat.le_refl _) _⟩
end Go.Proofs.YtehnkgonhgjeiaaGreatDoor

namespace Go.Proofs.YtehnkgonhgjeiaaGreatDoor
open Go.RowKit Go.IntWalk

def sgnE (z : Int) : Int := if z = 0 then 0 else if z < 0 then -1 else 1
theorem sgnE_neg (z : Int) : sgnE (-z) = -sgnE z := by
  unfold sgnE
  split <;> split <;> (try split) <;> (try split) <;> omega
theorem sgnE_le (z : Int) : -1 ≤ sgnE z ∧ sgnE z ≤ 1 := by
  unfold sgnE
  split
  · omega
  · split <;> omega
theorem flip_md (x : Nat) (hx : x < 18446744073709551616) : flipOf x % 9223372036854775808 = x % 9223372036854775808 ∧ (9223372036854775808 ≤ flipOf x ↔ ¬ 9223372036854775808 ≤ x) := by
  unfold flipOf
  split <;> omega
theorem sv_flip (x : Nat) (hx : x < 18446744073709551616) : sv (flipOf x) = -sv x := by
  obtain ⟨h1, h2⟩ := flip_md x hx
  unfold sv
  rw [h1]
  by_cases c : 9223372036854775808 ≤ x
  · rw [if_pos c, if_neg (fun d => h2.1 d c), Int.neg_neg]
  · rw [if_neg c, if_pos (h2.2 c)]
theorem exp_flip (x : Nat) (hx : x < 18446744073709551616) : (expOf (flipOf x) == 2047) = (expOf x == 2047) := by
  obtain ⟨h1, h2⟩ := flip_md x hx
  have hf := flip_lt hx
  rw [Bool.eq_iff_iff, beq_iff_eq, beq_iff_eq]
  unfold expOf canonOf
  rw [h1]
  by_cases c : 9218868437227405312 < x % 9223372036854775808
  · rw [if_pos c, if_pos c]
  · rw [if_neg c, if_neg c]
    omega
theorem neg_flip (x : Nat) (hx : x < 18446744073709551616) : Op.unary .neg (.float .f64 x) = pure (.float .f64 (flipOf x)) := by
  have h := xor_sign x hx
  have h2 := u64_xor_nat x 9223372036854775808 hx (by omega)
  have e : x ^^^ 9223372036854775808 = flipOf x := by
    have h3 := h2.symm.trans h
    omega
  rw [← e]
  rfl
end Go.Proofs.YtehnkgonhgjeiaaGreatDoor

namespace Go.Proofs.YtehnkgonhgjeiaaGreatDoor
open Go.RowKit Go.IntWalk

theorem numsL (V : World) (b : Nat) (zs : List Nat) (T : TypeId) (h : V.heap[b]? = some (.cells ((zs.map (fun z => Value.float .f64 z)).toArray) T)) : NumsAt V b 0 zs :=
  ⟨(Array.getElem?_eq_some_iff.1 h).1, fun i hi => by
    simp [World.cell?, h, hi, List.getD]⟩
theorem two_blkE (w : World) (A B : Obj) : ((w.alloc A).alloc B).heap[w.heap.size]? = some A ∧ ((w.alloc A).alloc B).heap[w.heap.size + 1]? = some B := by
  have h1 : (w.alloc A).heap.size = w.heap.size + 1 := by simp
  constructor
  · rw [((Below.refl (w.alloc A).heap.size (w.alloc A)).alloc (Nat.le_refl _) B).block w.heap.size (by omega)]
    exact new_blk w A _ rfl
  · exact new_blk (w.alloc A) B _ h1.symm
theorem finl_of {zs : List Nat} (h : ∀ z, z ∈ zs → z < 18446744073709551616 ∧ z % 9223372036854775808 < 9218868437227405312) : FinL zs := fun i hi => by
  have : zs.getD i 0 ∈ zs := by rw [List.getD_eq_getElem?_getD, List.getElem?_eq_getElem hi]; exact List.getElem_mem hi
  exact h _ this
theorem bitl_of {zs : List Nat} (h : ∀ z, z ∈ zs → z < 18446744073709551616) : BitL zs := fun i hi => by
  have : zs.getD i 0 ∈ zs := by rw [List.getD_eq_getElem?_getD, List.getElem?_eq_getElem hi]; exact List.getElem_mem hi
  exact h _ this
def finB (x : Nat) : Bool := !(expOf x == 2047)
theorem finB_is (x : Nat) (h : finB x = true) : x % 9223372036854775808 < 9218868437227405312 := by
  unfold finB at h
  have h1 : expOf x ≠ 2047 := by simpa using h
  unfold expOf canonOf at h1
  split at h1 <;> omega
theorem finB_flip (x : Nat) (hx : x < 18446744073709551616) : finB (flipOf x) = finB x := by unfold finB; rw [exp_flip x hx]
/-- The sign, and the error. -/
def detV (a b c d : Nat) : Int := sv a * sv d - sv b * sv c
def detF (a b c d : Nat) : Bool := finB a && finB b && finB c && finB d
def detS (a b c d : Nat) : Int := if detF a b c d then sgnE (detV a b c d) else 0
def detE (a b c d : Nat) : Int := if detF a b c d then 0 else 4
end Go.Proofs.YtehnkgonhgjeiaaGreatDoor

namespace Go.Proofs.YtehnkgonhgjeiaaGreatDoor
open Go.RowKit Go.IntWalk

def turnV (p q r s t u : Nat) : Int := sv p * sv s - sv p * sv u + sv r * sv u - sv r * sv q + sv t * sv q - sv t * sv s
def turnF (p q r s t u : Nat) : Bool := finB p && finB q && finB r && finB s && finB t && finB u
def turnS (p q r s t u : Nat) : Int := if turnF p q r s t u then sgnE (turnV p q r s t u) else 0
def turnE (p q r s t u : Nat) : Int := if turnF p q r s t u then 0 else 4
theorem turn_cycle (p q r s t u : Nat) : turnS r s t u p q = turnS p q r s t u ∧ turnE r s t u p q = turnE p q r s t u := by
  have h1 : turnF r s t u p q = turnF p q r s t u := by
    unfold turnF
    cases finB p <;> cases finB q <;> cases finB r <;> cases finB s <;> cases finB t <;> cases finB u <;> rfl
  have h2 : turnV r s t u p q = turnV p q r s t u := by unfold turnV; omega
  unfold turnS turnE
  rw [h1, h2]
  exact ⟨rfl, rfl⟩
theorem turn_swap (p q r s t u : Nat) : turnS r s p q t u = -turnS p q r s t u ∧ turnE r s p q t u = turnE p q r s t u := by
  have h1 : turnF r s p q t u = turnF p q r s t u := by
    unfold turnF
    cases finB p <;> cases finB q <;> cases finB r <;> cases finB s <;> cases finB t <;> cases finB u <;> rfl
  have h2 : turnV r s p q t u = -turnV p q r s t u := by unfold turnV; omega
  unfold turnS turnE
  rw [h1, h2, sgnE_neg]
  refine ⟨?_, rfl⟩
  split <;> simp
theorem det_swap (a b c d : Nat) : detS c d a b = -detS a b c d ∧ detE c d a b = detE a b c d ∧ detS b a d c = -detS a b c d ∧ detE b a d c = detE a b c d := by
  have h1 : detF c d a b = detF a b c d ∧ detF b a d c = detF a b c d := by
    unfold detF
    cases finB a <;> cases finB b <;> cases finB c <;> cases finB d <;> exact ⟨rfl, rfl⟩
  have h2 : detV c d a b = -detV a b c d := by unfold detV; rw [Int.mul_comm (sv c), Int.mul_comm (sv d)]; omega
  have h3 : detV b a d c = -detV a b c d := by unfold detV; omega
  unfold detS detE
  rw [h1.1, h1.2, h2, h3, sgnE_neg]
  refine ⟨?_, rfl, ?_, rfl⟩ <;> (split <;> simp)
theorem turnS_le (p q r s t u : Nat) : -1 ≤ turnS p q r s t u ∧ turnS p q r s t u ≤ 1 := by
  unfold turnS
  split
  · exact sgnE_le _
  · omega
theorem detS_le (a b c d : Nat) : -1 ≤ detS a b c d ∧ detS a b c d ≤ 1 := by
  unfold detS
  split
  · exact sgnE_le _
  · omega
end Go.Proofs.YtehnkgonhgjeiaaGreatDoor
