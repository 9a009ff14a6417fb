
/- What math/bits' Mul64 does; one product more in dyad's total. -/
import Derived.Test.YtpjdmhidhllbkaaGreatDoorP30
import Derived.Lib.Mul64
import Derived.Laws.Bits64b
import Derived.Test.YtpjdmhidhllbkaaGreatDoorP2
namespace Go.Proofs.YtpjdmhidhllbkaaGreatDoor
open Go.RowKit Go.IntWalk

theorem low32 (a : Nat) (ha : a < 18446744073709551616) : bits .and .u64 (a : Int) 4294967295 = ((a % 4294967296 : Nat) : Int) := by
  have h := bits_and_u64_nat a 4294967295 ha (by omega)
  rw [show a &&& 4294967295 = a % 4294967296 from Nat.and_two_pow_sub_one_eq_mod a 32] at h
  exact h
theorem nat_quo (a : Nat) : (a : Int) / 4294967296 = ((a / 4294967296 : Nat) : Int) := by omega
theorem nat_mul (a b : Nat) : (a : Int) * (b : Int) = ((a * b : Nat) : Int) := (Int.natCast_mul a b).symm
theorem nat_add (a b : Nat) : (a : Int) + (b : Int) = ((a + b : Nat) : Int) := (Int.natCast_add a b).symm
theorem nat_wrap (a : Nat) : IntKind.u64.wrap (a : Int) = ((a % 18446744073709551616 : Nat) : Int) := by rw [IntKind.wrap_u64]; omega
theorem nat_in (a : Nat) (ha : a < 18446744073709551616) : IntKind.u64.wrap (a : Int) = (a : Int) := by rw [nat_wrap, Nat.mod_eq_of_lt ha]
set_option maxHeartbeats 1000000 in
theorem Mul64_dy (x y : Nat) (w : World) (hx : x < 18446744073709551616) (hy : y < 18446744073709551616) :
    Calls Tryz.prog 92 #[.int .u64 x, .int .u64 y] w fun r w' => r = .returned (.tuple #[.int .u64 ((x * y / 18446744073709551616 : Nat) : Int), .int .u64 ((x * y % 18446744073709551616 : Nat) : Int)]) ∧ w' = w := by
  obtain ⟨k1, k2, k3, k4⟩ := Go.Lib.mul64_hi x y hx hy
  have m1 := Go.Lib.half_mul_le (a := x / 4294967296) (b := y / 4294967296) (by omega) (by omega)
  have m2 := Go.Lib.half_mul_le (a := x / 4294967296) (b := y % 4294967296) (by omega) (by omega)
  have m3 := Go.Lib.half_mul_le (a := x % 4294967296) (b := y / 4294967296) (by omega) (by omega)
  have n1 : x / 4294967296 * (y / 4294967296) < 18446744073709551616 := by omega
  have n2 : x / 4294967296 * (y % 4294967296) < 18446744073709551616 := by omega
  have n3 : x % 4294967296 * (y / 4294967296) < 18446744073709551616 := by omega
  have n4 : x / 4294967296 * (y / 4294967296) + (x / 4294967296 * (y % 4294967296) + x % 4294967296 * (y % 4294967296) / 4294967296) / 4294967296 < 18446744073709551616 := by omega
  have n5 : x / 4294967296 * (y / 4294967296) + (x / 4294967296 * (y % 4294967296) + x % 4294967296 * (y % 4294967296) / 4294967296) / 4294967296 + ((x / 4294967296 * (y % 4294967296) + x % 4294967296 * (y % 4294967296) / 4294967296) % 4294967296 + x % 4294967296 * (y / 4294967296)) / 4294967296 < 18446744073709551616 := by omega
  go_enter Tryz.func92, Tryz.ntmps92
  go_wp2
  simp only [low32 x hx, low32 y hy, nat_quo, nat_mul, nat_add, nat_in _ k1, nat_in _ n2, nat_in _ k2, low32 _ k2, nat_in _ n3, nat_in _ k3, nat_in _ n1, nat_in _ n4, nat_in _ n5, nat_wrap (x * y)]
  rw [k4]
  go_ret2
  exact ⟨rfl, rfl⟩
/-- The sum of products of two lists' numbers, in steps of 2^-2148. -/
def dotSv (xs ys : List Nat) : Nat → Int
  | 0 => 0
  | k + 1 => dotSv xs ys k + sv (xs.getD k 0) * sv (ys.getD k 0)
theorem sgn_abs (n : Bool) (m j : Nat) (s : Int) (h : sgnN n m * 2 ^ j = s) : m * 2 ^ j = s.natAbs := by
  rw [← h, Int.natAbs_mul, Int.natAbs_pow]
  congr 1
  unfold sgnN
  split <;> simp
theorem sgn_prod (n1 n2 : Bool) (m1 m2 : Nat) : sgnN (n1 != n2) (m1 * m2) = sgnN n1 m1 * sgnN n2 m2 := by
  unfold sgnN
  cases n1 <;> cases n2 <;> simp [Int.mul_neg, Int.neg_mul]
theorem sgn_pow (n : Bool) (m j : Nat) : sgnN n (m * 2 ^ j) = sgnN n m * 2 ^ j := by
  unfold sgnN
  split
  · rw [Int.natCast_mul, Int.natCast_pow, Int.neg_mul]; rfl
  · rw [Int.natCast_mul, Int.natCast_pow]; rfl
theorem pexp_small (x : Nat) (hf : x % 9223372036854775808 < 9218868437227405312) : pExp x ≤ 1023 := by
  obtain ⟨v1, v2, v3, v4, v5⟩ := parts_val x hf
  by_cases h0 : mantOf x = 0
  · have hp : pExp x = 0 := by unfold pExp; rw [if_pos (Or.inr h0)]
    omega
  · obtain ⟨p1, p2, p3, p4, p5, p6⟩ := v5 h0
    have hbp := bitLen_pos p1
    omega
/-- One product more. -/
theorem dot_put (x y b k : Nat) (S : Int) (W0 w : World) (h : AccI W0 b S k w) (hx : x % 9223372036854775808 < 9218868437227405312) (hy : y % 9223372036854775808 < 9218868437227405312) (hk : k < 18446744073709551616) :
    Calls Tryz.prog 81 #[.pointer (some ⟨b, 0, none⟩), .bool (pNeg x != pNeg y), .int .u64 ((pMant x * pMant y / 18446744073709551616 : Nat) : Int), .int .u64 ((pMant x * pMant y % 18446744073709551616 : Nat) : Int), .int .i64 (pExp x + pExp y)] w fun r w' => r = .returned (.tuple #[]) ∧ AccI W0 b (S + sv x * sv y) (k + 1) w' := by
  obtain ⟨i, i1, i2, i3, i4, i5, i6, i7⟩ := sv_parts x hx
  obtain ⟨j, j1, j2, j3, j4, j5, j6, j7⟩ := sv_parts y hy
  have a1 := sgn_abs _ _ _ _ i1
  have a2 := sgn_abs _ _ _ _ j1
  have eV : pMant x * pMant y % 18446744073709551616 + 18446744073709551616 * (pMant x * pMant y / 18446744073709551616) = pMant x * pMant y := Nat.mod_add_div _ _
  have hlt : pMant x * pMant y < 18446744073709551616 * 18446744073709551616 := Nat.mul_lt_mul'' i7 j7
  have eP : pMant x * pMant y * 2 ^ (i + j) = pMant x * 2 ^ i * (pMant y * 2 ^ j) := by rw [Nat.pow_add, Nat.mul_mul_mul_comm]
  have hv : (pMant x * pMant y % 18446744073709551616 + 18446744073709551616 * (pMant x * pMant y / 18446744073709551616)) * 2 ^ (i + j) < 2 ^ kT := by
    rw [eV, eP, a1, a2]
    have h1 : (sv x).natAbs * (sv y).natAbs < 2 ^ kN * 2 ^ kN := Nat.mul_lt_mul'' i3 j3
    rw [← Nat.pow_add] at h1
    rw [show kT = kN + kN from rfl]
    exact h1
  have q1 := pexp_small x hx
  have q2 := pexp_small y hy
  have hp := acc_put (pNeg x != pNeg y) b (pMant x * pMant y % 18446744073709551616) (pMant x * pMant y / 18446744073709551616) (i + j) k (pExp x + pExp y) S W0 w h (Nat.mod_lt _ (by decide)) (Nat.div_lt_of_lt_mul hlt) (by omega) (by omega) hv hk
  refine hp.mono ?_
  rintro r w' ⟨rfl, ha⟩
  refine ⟨rfl, ?_⟩
  have e : sgnN (pNeg x != pNeg y) ((pMant x * pMant y % 18446744073709551616 + 18446744073709551616 * (pMant x * pMant y / 18446744073709551616)) * 2 ^ (i + j)) = sv x * sv y := by
    rw [eV, sgn_pow, sgn_prod, ← i1, ← j1, Int.pow_add]
    rw [Int.mul_assoc, Int.mul_assoc]
    congr 1
    rw [← Int.mul_assoc, ← Int.mul_assoc, Int.mul_comm (sgnN _ _) (2 ^ i)]
  rw [e] at ha
  exact ha
end Go.Proofs.YtpjdmhidhllbkaaGreatDoor

namespace Go.Proofs.YtpjdmhidhllbkaaGreatDoor
open Go.RowKit Go.IntWalk

theorem bw_al {B : Nat} {w W : World} (h : Hid (Below B w W)) (hB : Hid (B ≤ w.heap.size)) (o : Obj) : Hid (Below B w (W.alloc o)) := h.out.alloc (Nat.le_trans hB.out h.out.size) o
theorem bw_dr {B : Nat} {w W : World} (h : Hid (Below B w W)) : Hid (Below B w W.drew) := h.out.drew
theorem bw_st {B : Nat} {w W : World} (h : Hid (Below B w W)) (P : Nat) (hP : B ≤ P) (x y z : Value) : Hid (Below B w (((W.setCell ⟨P, 0, none⟩ x).setCell ⟨P, 1, none⟩ y).setCell ⟨P, 2, none⟩ z)) := Below.setCell (Below.setCell (Below.setCell h.out hP x) hP y) hP z
/-- Two places' parts. -/
def TwoP (V : World) (P Q : Nat) (N1 N2 : Bool) (m1 m2 : Nat) (E1 E2 : Int) : Prop := (V.cell? ⟨P, 0, none⟩ = some (.bool N1) ∧ V.cell? ⟨P, 1, none⟩ = some (.int .u64 m1) ∧ V.cell? ⟨P, 2, none⟩ = some (.int .i64 E1)) ∧ (V.cell? ⟨Q, 0, none⟩ = some (.bool N2) ∧ V.cell? ⟨Q, 1, none⟩ = some (.int .u64 m2) ∧ V.cell? ⟨Q, 2, none⟩ = some (.int .i64 E2))
theorem wp_two {R : Exit → Act → World → Prop} {e : Exit} {a : Act} {W w : World} {B : Nat} {N1 N2 : Bool} {m1 m2 : Nat} {E1 E2 : Int} (p q : Nat) (k : ∀ V, TwoP V p q N1 N2 m1 m2 E1 E2 → Hid (Below B w V) → R e a V) (_h9 : a.eval (.tmp 9) = .pointer (some ⟨p, 0, none⟩)) (_h10 : a.eval (.tmp 10) = .pointer (some ⟨q, 0, none⟩)) (h : TwoP W p q N1 N2 m1 m2 E1 E2) (hb : Hid (Below B w W)) : R e a W := k W h hb
set_option maxRecDepth 8000 in
set_option maxHeartbeats 4000000 in
theorem Dot_fin (xs ys : List Nat) (b off cap b2 off2 cap2 : Nat) (w : World) (hlen : ys.length = xs.length) (hm : NumsAt w b off xs) (hm2 : NumsAt w b2 off2 ys) (hf : FinL xs) (hf2 : FinL ys) (hn : xs.length ≤ 140737488355328) (hT : Tab w) (hg : 2 < w.heap.size) (hT3 : Tab32 w) (hs : 1 < w.heap.size) :
    Calls Tryz.prog 56 #[.slice (some ⟨b, off, none⟩) xs.length cap, .slice (some ⟨b2, off2, none⟩) ys.length cap2] w fun r w' => DyOut (dotSv xs ys xs.length) (-2148) w.heap.size r w' ∧ Below w.heap.size w w' := by
  have HM := hid (And.intro hm hm2)
  have HF := hid (And.intro hf hf2)
  have HFI : Hid (∀ W, Below w.heap.size w W → Calls Tryz.prog 41 #[.slice (some ⟨b, off, none⟩) xs.length cap] W fun r w' => r = .returned (.bool true) ∧ Below W.heap.size W w') := fun W hW => by
    have hmW := hm.below hW
    have := Finite_any xs b off cap W hmW.1 hmW.2 (fun i hi => (hf i hi).1) hn
    rw [fin_all xs hf] at this
    exact this
  have HFI2 : Hid (∀ W, Below w.heap.size w W → Calls Tryz.prog 41 #[.slice (some ⟨b2, off2, none⟩) ys.length cap2] W fun r w' => r = .returned (.bool true) ∧ Below W.heap.size W w') := fun W hW => by
    have hmW := hm2.below hW
    have := Finite_any ys b2 off2 cap2 W hmW.1 hmW.2 (fun i hi => (hf2 i hi).1) (by omega)
    rw [fin_all ys hf2] at this
    exact this
  obtain ⟨n, hnl⟩ : ∃ n, Hid (xs.length = n) := ⟨_, rfl⟩
  have hnl2 : Hid (ys.length = n) := hlen.trans hnl.out
  rw [hnl.out] at HFI hn ⊢
  rw [hnl2.out] at HFI2 ⊢
  have HT := hid (And.intro hT (And.intro hg (And.intro hT3 hs)))
  have hblt := hm.1
  have hblt2 := hm2.1
  have hnn : ((n : Int) != (n : Int)) = false := by simp
  clear hm hm2 hf hf2 hT hg hT3 hs hlen
  go_enter Tryz.func56, Tryz.ntmps56
  go_wp2_with fail
  refine (HFI.out _ ((Below.refl _ _).alloc (Nat.le_refl _) _)).mono ?_
  rintro r w0 ⟨rfl, hb0⟩
  have HBW0 : Hid (Below w.heap.size w w0) := ((Below.refl _ _).alloc (Nat.le_refl _) _).trans (hb0.mono (by simp))
  go_wp2_with fail
  refine (HFI2.out _ HBW0.out).mono ?_
  rintro r w1 ⟨rfl, hb1⟩
  have hsz0 : w.heap.size < w0.heap.size := by have := hb0.size; simp at this; omega
  have hsz : w.heap.size < w1.heap.size := by have := hb1.size; omega
  have HBW1 : Hid (Below w.heap.size w w1) := HBW0.out.trans (hb1.mono HBW0.out.size)
  have hbx1 : w1.heap[w.heap.size]? = some (DyBox false none 0 0 0) := by rw [hb1.block _ hsz0, hb0.block _ (by simp)]; exact new_blk _ _ _ rfl
  have HA0 := hid (acc_new w1)
  obtain ⟨W0, hW0⟩ : ∃ W0, Hid (w1.alloc (.cells Tryz.zeroCells108 108) = W0) := ⟨_, rfl⟩
  have hW0' : w1.alloc (.cells Tryz.zeroCells108 108) = W0 := hW0.out
  rw [hW0'] at HA0
  have HB0 : Hid (Below w.heap.size w W0) := by rw [← hW0.out]; exact HBW1.out.alloc HBW1.out.size _
  have HX0 : Hid (W0.heap[w.heap.size]? = some (DyBox false none 0 0 0)) := by rw [← hW0.out]; show (w1.alloc _).heap[w.heap.size]? = _; rw [((Below.refl w1.heap.size w1).alloc (Nat.le_refl _) _).block _ hsz]; exact hbx1
  have HWR : Hid (∀ S k wr, Hid (AccI W0 w1.heap.size S k wr) → Below w.heap.size w wr ∧ NumsAt wr b off xs ∧ NumsAt wr b2 off2 ys) := fun S k wr h => by
    obtain ⟨o, g1, g2, g3, g4, g5⟩ := h.out
    have hlt : w.heap.size ≤ W0.heap.size := HB0.out.size
    exact ⟨HB0.out.trans (g5.below hlt (Nat.le_of_lt hsz)), (HM.out.1.below HB0.out).but g5 (by omega), (HM.out.2.below HB0.out).but g5 (by omega)⟩
  have HPO : Hid (∀ W x, x < 18446744073709551616 → Below w.heap.size w W → Calls Tryz.prog 80 #[.float .f64 x] W fun r w' => r = .returned (.agg #[.bool (pNeg x), .int .u64 (pMant x), .int .i64 (pExp x)]) ∧ Below W.heap.size W w') := fun W x hx hW => partsOf_dy _ W hx (HT.out.1.below HT.out.2.1 hW) (Nat.lt_of_lt_of_le HT.out.2.1 hW.size)
  have HEND : Hid (∀ wr, Hid (AccI W0 w1.heap.size (dotSv xs ys n) n wr) → _) := fun wr h => acc_end h.out HB0.out hsz HX0.out HT.out.2.2.1 HT.out.2.2.2
  clear hb1 hb0 hbx1 HFI HFI2
  go_wp2
  go_loopw [32] (fun i wr => ∃ k : Nat, k ≤ n ∧ i = .int .i64 k ∧ Hid (AccI W0 w1.heap.size (dotSv xs ys k) k wr)) (fun i _ => n - (intOf i).toNat)
  case atStart => exact ⟨0, Nat.zero_le _, rfl, HA0⟩
  case round =>
    obtain ⟨k, hk, rfl, HA⟩ := hrel
    by_cases hlt : k < n
    · obtain ⟨hbw, hnm, hnm2⟩ := HWR.out _ _ _ HA
      have HBW := hid hbw
      have hck := hnm.2 k (by rw [hnl.out]; exact hlt)
      have hck2 := hnm2.2 k (by rw [hnl2.out]; exact hlt)
      have hbr : b < wr.heap.size := hnm.1
      have hbr2 : b2 < wr.heap.size := hnm2.1
      obtain ⟨x1, x2⟩ := HF.out.1 k (by rw [hnl.out]; exact hlt)
      obtain ⟨y1, y2⟩ := HF.out.2 k (by rw [hnl2.out]; exact hlt)
      have hds : dotSv xs ys (k + 1) = dotSv xs ys k + sv (xs.getD k 0) * sv (ys.getD k 0) := rfl
      obtain ⟨x, hx⟩ : ∃ x, Hid (xs.getD k 0 = x) := ⟨_, rfl⟩
      obtain ⟨y, hy⟩ : ∃ y, Hid (ys.getD k 0 = y) := ⟨_, rfl⟩
      rw [hx.out] at hck x1 x2 hds
      rw [hy.out] at hck2 y1 y2 hds
      obtain ⟨T, hT⟩ : ∃ T, Hid (dotSv xs ys (k + 1) = T) := ⟨_, rfl⟩
      rw [hT.out] at hds
      have HX := hid (show x < 18446744073709551616 ∧ x % 9223372036854775808 < 9218868437227405312 from ⟨x1, x2⟩)
      have HY := hid (show y < 18446744073709551616 ∧ y % 9223372036854775808 < 9218868437227405312 from ⟨y1, y2⟩)
      have HC0 : Hid (wr.heap.size ≤ wr.heap.size) := Nat.le_refl _
      have HCB : Hid (Below wr.heap.size wr wr) := Below.refl _ _
      have HP : Hid (∀ z, z < 18446744073709551616 → ∀ W, Hid (Below wr.heap.size wr W) → Calls Tryz.prog 80 #[.float .f64 z] W fun r w' => r = .returned (.agg #[.bool (pNeg z), .int .u64 (pMant z), .int .i64 (pExp z)]) ∧ Hid (Below wr.heap.size wr w') ∧ (∀ b o, b < W.heap.size → w'.cell? ⟨b, o, none⟩ = W.cell? ⟨b, o, none⟩) ∧ (∀ b o, b < W.heap.size → w'.frozen? ⟨b, o, none⟩ = W.frozen? ⟨b, o, none⟩) ∧ (∀ b, b < W.heap.size → b < w'.heap.size) ∧ wr.heap.size ≤ w'.heap.size) := fun z hz W hW => by
        refine (HPO.out W z hz (HBW.out.trans (hW.out.mono HBW.out.size))).mono ?_
        rintro r w' ⟨rfl, hb⟩
        obtain ⟨g1, g2⟩ := bcell hb
        exact ⟨rfl, hW.out.trans (hb.mono hW.out.size), g1, g2, fun b h => Nat.lt_of_lt_of_le h hb.size, Nat.le_trans hW.out.size hb.size⟩
      have HPX := hid (HP.out x x1)
      have HPY := hid (HP.out y y1)
      have HMUL := hid (fun W => Mul64_dy (pMant x) (pMant y) W (by obtain ⟨_, _, _, _, _, _, _, h⟩ := sv_parts x x2; exact h) (by obtain ⟨_, _, _, _, _, _, _, h⟩ := sv_parts y y2; exact h))
      have HPUT : Hid (∀ W, Hid (Below wr.heap.size wr W) → Calls Tryz.prog 81 #[.pointer (some ⟨w1.heap.size, 0, none⟩), .bool (pNeg x != pNeg y), .int .u64 ((pMant x * pMant y / 18446744073709551616 : Nat) : Int), .int .u64 ((pMant x * pMant y % 18446744073709551616 : Nat) : Int), .int .i64 (pExp x + pExp y)] W fun r w' => r = .returned (.tuple #[]) ∧ Hid (AccI W0 w1.heap.size T (k + 1) w')) := fun W hW => by
        rw [hds]
        exact dot_put x y w1.heap.size k _ W0 W (HA.out.below hW.out) x2 y2 (by omega)
      have hE1 : IntKind.i64.wrap (pExp x + pExp y) = pExp x + pExp y := by
        obtain ⟨_, _, _, _, _, a1, a2, _⟩ := sv_parts x x2
        obtain ⟨_, _, _, _, _, b1, b2, _⟩ := sv_parts y y2
        rw [IntWalk.i64_in _ (by omega)]
      obtain ⟨N1, hN1⟩ : ∃ N, Hid (pNeg x = N) := ⟨_, rfl⟩
      obtain ⟨m1, hm1⟩ : ∃ m, Hid (pMant x = m) := ⟨_, rfl⟩
      obtain ⟨E1, hE1'⟩ : ∃ E, Hid (pExp x = E) := ⟨_, rfl⟩
      obtain ⟨N2, hN2⟩ : ∃ N, Hid (pNeg y = N) := ⟨_, rfl⟩
      obtain ⟨m2, hm2⟩ : ∃ m, Hid (pMant y = m) := ⟨_, rfl⟩
      obtain ⟨E2, hE2'⟩ : ∃ E, Hid (pExp y = E) := ⟨_, rfl⟩
      rw [hN1.out, hm1.out, hE1'.out] at HPX HPUT
      rw [hN2.out, hm2.out, hE2'.out] at HPY HPUT
      rw [hm1.out, hm2.out] at HMUL
      rw [hE1'.out, hE2'.out] at hE1
      obtain ⟨hi, hhi⟩ : ∃ h, Hid (m1 * m2 / 18446744073709551616 = h) := ⟨_, rfl⟩
      obtain ⟨lo, hlo⟩ : ∃ l, Hid (m1 * m2 % 18446744073709551616 = l) := ⟨_, rfl⟩
      rw [hhi.out, hlo.out] at HMUL HPUT
      have hkI : (k : Int) < (n : Int) := by omega
      have hk0 : (0 : Int) ≤ (k : Int) := by omega
      have HK : Hid (∀ W, Hid (Below wr.heap.size wr W) → W.cell? ⟨b2, off2 + k, none⟩ = some (.float .f64 y) ∧ Hid (Below wr.heap.size wr W)) := fun W hW => ⟨by rw [hW.out.cell (p := ⟨b2, off2 + k, none⟩) hbr2]; exact hck2, hW⟩
      have HQ0 := bw_dr HCB
      have h00 : ∀ a : Nat, a < a + 1 + 1 := fun a => by omega
      have h02 : ∀ a b : Nat, a < b → a < b + 1 := fun a b h => by omega
      clear hbw hnm hnm2 x1 x2 y1 y2 hds HP
      go_wp2_with fail
      go_region_held3 (fun W => W.cell? ⟨b2, off2 + k, none⟩ = some (.float .f64 y) ∧ Hid (Below wr.heap.size wr W))
        ((refine HK.out _ ?_; repeat' (first | with_reducible assumption | with_reducible exact HQ0 | with_reducible refine bw_dr ?_ | with_reducible refine bw_al ?_ HC0 _ | with_reducible refine bw_st ?_ _ (by omega) _ _ _)))
        (first
          | (go_at_call 80; with_reducible refine (HPX.out _ (And.right (by assumption))).mono ?_; rintro r w2 ⟨rfl, HB2, hc2, hf2, hs2, hr2⟩; have hj1 := hs2 wr.heap.size; (try simp [h00] at hj1); have hj2 := hs2 (wr.heap.size + 1); (try simp at hj2))
          | (go_at_call 80; with_reducible refine (HPY.out _ (And.right (by assumption))).mono ?_; rintro r w3 ⟨rfl, HB3, hc3, hf3, hs3, hr3⟩; have hj3 := hs3 wr.heap.size; (first | simp [hj1] at hj3 | simp at hj3 | skip); have hj4 := hs3 (wr.heap.size + 1); (first | simp [hj2] at hj4 | simp at hj4 | skip); have hj5 := hs3 w2.heap.size; (try simp at hj5); have hj6 := hs3 (w2.heap.size + 1); (try simp at hj6)))
      all_goals
        apply wp_two (N1 := N1) (N2 := N2) (m1 := m1) (m2 := m2) (E1 := E1) (E2 := E2) (w := wr) (B := wr.heap.size)
        case _h9 => exact rfl
        case _h10 => exact rfl
        case h => unfold TwoP; first | (simp [go_sem]; done) | (have e4 := Nat.lt_succ_of_lt hj1; simp [go_sem, *]; done) | (simp [go_sem, *]; done)
        case hb => first | exact And.right (by assumption) | (repeat' (first | with_reducible assumption | with_reducible refine bw_dr ?_ | with_reducible refine bw_al ?_ HC0 _ | with_reducible refine bw_st ?_ _ (by omega) _ _ _))
      all_goals
        rintro V ⟨⟨y0, y1, y2⟩, z0, z1, z2⟩ HBV
        go_wp2_with fail
        refine (HMUL.out _).mono ?_
        rintro r w4 ⟨rfl, rfl⟩
        go_wp2_with fail
        refine (HPUT.out _ HBV).mono ?_
        rintro r w5 ⟨rfl, HA5⟩
        go_wp2
        refine ⟨⟨k + 1, by omega, by go_num, by rw [hT.out]; exact HA5⟩, ?_⟩
        simp [intOf]; omega
    · have hkn : k = n := by omega
      subst hkn
      go_wp2_with fail
      refine (HEND.out _ HA).mono ?_
      rintro r w3 ⟨neg', b', k', d', x', v0, v1, v2, rfl, HRT, HF3, HBB, fz, c0, c1', c2'⟩
      go_wp2
      exact bodyPost_ret (v := .tuple #[.agg #[.bool neg', .slice b' k' d', .int .i64 x'], .int .i64 0]) (by simp [results, Tryz.results56, go_sem, c0, c1', c2']) rfl (res_end HBB.out (Nat.le_refl _) HRT HF3)
end Go.Proofs.YtpjdmhidhllbkaaGreatDoor

namespace Go.Proofs.YtpjdmhidhllbkaaGreatDoor
open Go.RowKit Go.IntWalk

def BitL (zs : List Nat) : Prop := ∀ i, i < zs.length → zs.getD i 0 < 18446744073709551616
set_option maxHeartbeats 1000000 in
theorem Sum_bad (zs : List Nat) (b off cap : Nat) (w : World) (hm : NumsAt w b off zs) (hz : BitL zs) (hf : allFin zs = false) (hn : zs.length ≤ 140737488355328) :
    Calls Tryz.prog 43 #[.slice (some ⟨b, off, none⟩) zs.length cap] w fun r w' => r = .returned (.tuple #[.agg #[.bool false, .slice none 0 0, .int .i64 0], .int .i64 4]) ∧ Below w.heap.size w w' := by
  have HFI : Hid (∀ W, Below w.heap.size w W → Calls Tryz.prog 41 #[.slice (some ⟨b, off, none⟩) zs.length cap] W fun r w' => r = .returned (.bool false) ∧ Below W.heap.size W w') := fun W hW => by
    have hmW := hm.below hW
    have := Finite_any zs b off cap W hmW.1 hmW.2 hz hn
    rw [hf] at this
    exact this
  obtain ⟨n, hnl⟩ : ∃ n, Hid (zs.length = n) := ⟨_, rfl⟩
  rw [hnl.out] at HFI ⊢
  clear hm hz hf hn
  go_enter Tryz.func43, Tryz.ntmps43
  go_wp2_with fail
  refine (HFI.out _ ((Below.refl _ _).alloc (Nat.le_refl _) _)).mono ?_
  rintro r w1 ⟨rfl, hb1⟩
  have hsz : w.heap.size < w1.heap.size := by have := hb1.size; simp at this; omega
  obtain ⟨hc, hf⟩ := bcell hb1
  have HB1 : Hid (Below w.heap.size w w1) := ((Below.refl _ _).alloc (Nat.le_refl _) _).trans (hb1.mono (by simp))
  clear hb1
  go_wp2
  exact bodyPost_ret (v := .tuple #[.agg #[.bool false, .slice none 0 0, .int .i64 0], .int .i64 4]) (by simp [results, Tryz.results43, go_sem, hc]) rfl ⟨rfl, Below.setCell (Below.setCell (Below.setCell HB1.out (Nat.le_refl _) _) (Nat.le_refl _) _) (Nat.le_refl _) _⟩
set_option maxHeartbeats 1000000 in
theorem Dot_bad (xs ys : List Nat) (b off cap b2 off2 cap2 : Nat) (w : World) (hlen : ys.length = xs.length) (hm : NumsAt w b off xs) (hm2 : NumsAt w b2 off2 ys) (hz : BitL xs) (hz2 : BitL ys) (hf : (allFin xs && allFin ys) = false) (hn : xs.length ≤ 140737488355328) :
    Calls Tryz.prog 56 #[.slice (some ⟨b, off, none⟩) xs.length cap, .slice (some ⟨b2, off2, none⟩) ys.length cap2] w fun r w' => r = .returned (.tuple #[.agg #[.bool false, .slice none 0 0, .int .i64 0], .int .i64 4]) ∧ Below w.heap.size w w' := by
  have HFI : Hid (∀ W, Below w.heap.size w W → Calls Tryz.prog 41 #[.slice (some ⟨b, off, none⟩) xs.length cap] W fun r w' => r = .returned (.bool (allFin xs)) ∧ Below W.heap.size W w') := fun W hW => by
    have hmW := hm.below hW
    exact Finite_any xs b off cap W hmW.1 hmW.2 hz hn
  have HFI2 : Hid (∀ W, Below w.heap.size w W → Calls Tryz.prog 41 #[.slice (some ⟨b2, off2, none⟩) ys.length cap2] W fun r w' => r = .returned (.bool (allFin ys)) ∧ Below W.heap.size W w') := fun W hW => by
    have hmW := hm2.below hW
    exact Finite_any ys b2 off2 cap2 W hmW.1 hmW.2 hz2 (by omega)
  obtain ⟨n, hnl⟩ : ∃ n, Hid (xs.length = n) := ⟨_, rfl⟩
  have hnl2 : Hid (ys.length = n) := hlen.trans hnl.out
  rw [hnl.out] at HFI ⊢
  rw [hnl2.out] at HFI2 ⊢
  obtain ⟨f1, hf1⟩ : ∃ f, Hid (allFin xs = f) := ⟨_, rfl⟩
  obtain ⟨f2, hf2⟩ : ∃ f, Hid (allFin ys = f) := ⟨_, rfl⟩
  rw [hf1.out] at HFI hf
  rw [hf2.out] at HFI2 hf
  clear hm hm2 hz hz2 hn hlen hf1 hf2
  cases f1
  · clear hf HFI2
    go_enter Tryz.func56, Tryz.ntmps56
    go_wp2_with fail
    refine (HFI.out _ ((Below.refl _ _).alloc (Nat.le_refl _) _)).mono ?_
    rintro r w1 ⟨rfl, hb1⟩
    have hsz : w.heap.size < w1.heap.size := by have := hb1.size; simp at this; omega
    obtain ⟨hc, hf⟩ := bcell hb1
    have HB1 : Hid (Below w.heap.size w w1) := ((Below.refl _ _).alloc (Nat.le_refl _) _).trans (hb1.mono (by simp))
    clear hb1
    go_wp2
    exact bodyPost_ret (v := .tuple #[.agg #[.bool false, .slice none 0 0, .int .i64 0], .int .i64 4]) (by simp [results, Tryz.results56, go_sem, hc]) rfl ⟨rfl, Below.setCell (Below.setCell (Below.setCell HB1.out (Nat.le_refl _) _) (Nat.le_refl _) _) (Nat.le_refl _) _⟩
  · cases f2
    · clear hf
      go_enter Tryz.func56, Tryz.ntmps56
      go_wp2_with fail
      refine (HFI.out _ ((Below.refl _ _).alloc (Nat.le_refl _) _)).mono ?_
      rintro r w0 ⟨rfl, hb0⟩
      have HBW0 : Hid (Below w.heap.size w w0) := ((Below.refl _ _).alloc (Nat.le_refl _) _).trans (hb0.mono (by simp))
      have hsz0 : w.heap.size < w0.heap.size := by have := hb0.size; simp at this; omega
      obtain ⟨hc0, hf0⟩ := bcell hb0
      clear hb0
      go_wp2_with fail
      refine (HFI2.out _ HBW0.out).mono ?_
      rintro r w1 ⟨rfl, hb1⟩
      have hsz : w.heap.size < w1.heap.size := by have := hb1.size; omega
      obtain ⟨hc, hf⟩ := bcell hb1
      have HB1 : Hid (Below w.heap.size w w1) := HBW0.out.trans (hb1.mono HBW0.out.size)
      clear hb1
      go_wp2
      exact bodyPost_ret (v := .tuple #[.agg #[.bool false, .slice none 0 0, .int .i64 0], .int .i64 4]) (by simp [results, Tryz.results56, go_sem, hc, hc0, hsz0]) rfl ⟨rfl, Below.setCell (Below.setCell (Below.setCell HB1.out (Nat.le_refl _) _) (Nat.le_refl _) _) (Nat.le_refl _) _⟩
    · exact absurd hf (by decide)
end Go.Proofs.YtpjdmhidhllbkaaGreatDoor

namespace Go.Proofs.YtpjdmhidhllbkaaGreatDoor
open Go.RowKit Go.IntWalk

def sgnE (z : Int) : Int := if z = 0 then 0 else if z < 0 then -1 else 1
theorem sgnE_neg (z : Int) : sgnE (-z) = -sgnE z := by
  unfold sgnE
  split <;> split <;> (try split) <;> (try split) <;> omega
theorem sgnE_le (z : Int) : -1 ≤ sgnE z ∧ sgnE z ≤ 1 := by
  unfold sgnE
  split
  · omega
  · split <;> omega
theorem flip_md (x : Nat) (hx : x < 18446744073709551616) : flipOf x % 9223372036854775808 = x % 9223372036854775808 ∧ (9223372036854775808 ≤ flipOf x ↔ ¬ 9223372036854775808 ≤ x) := by
  unfold flipOf
  split <;> omega
theorem sv_flip (x : Nat) (hx : x < 18446744073709551616) : sv (flipOf x) = -sv x := by
  obtain ⟨h1, h2⟩ := flip_md x hx
  unfold sv
  rw [h1]
  by_cases c : 9223372036854775808 ≤ x
  · rw [if_pos c, if_neg (fun d => h2.1 d c), Int.neg_neg]
  · rw [if_neg c, if_pos (h2.2 c)]
theorem exp_flip (x : Nat) (hx : x < 18446744073709551616) : (expOf (flipOf x) == 2047) = (expOf x == 2047) := by
  obtain ⟨h1, h2⟩ := flip_md x hx
  have hf := flip_lt hx
  rw [Bool.eq_iff_iff, beq_iff_eq, beq_iff_eq]
  unfold expOf canonOf
  rw [h1]
  by_cases c : 9218868437227405312 < x % 9223372036854775808
  · rw [if_pos c, if_pos c]
  · rw [if_neg c, if_neg c]
    omega
theorem neg_flip (x : Nat) (hx : x < 18446744073709551616) : Op.unary .neg (.float .f64 x) = pure (.float .f64 (flipOf x)) := by
  have h := xor_sign x hx
  have h2 := u64_xor_nat x 9223372036854775808 hx (by omega)
  have e : x ^^^ 9223372036854775808 = flipOf x := by
    have h3 := h2.symm.trans h
    omega
  rw [← e]
  rfl
end Go.Proofs.YtpjdmhidhllbkaaGreatDoor

namespace Go.Proofs.YtpjdmhidhllbkaaGreatDoor
open Go.RowKit Go.IntWalk

theorem numsL (V : World) (b : Nat) (zs : List Nat) (T : TypeId) (h : V.heap[b]? = some (.cells ((zs.map (fun z => Value.float .f64 z)).toArray) T)) : NumsAt V b 0 zs :=
  ⟨(Array.getElem?_eq_some_iff.1 h).1, fun i hi => by
    simp [World.cell?, h, hi, List.getD]⟩
theorem two_blkE (w : World) (A B : Obj) : ((w.alloc A).alloc B).heap[w.heap.size]? = some A ∧ ((w.alloc A).alloc B).heap[w.heap.size + 1]? = some B := by
  have h1 : (w.alloc A).heap.size = w.heap.size + 1 := by simp
  constructor
  · rw [((Below.refl (w.alloc A).heap.size (w.alloc A)).alloc (Nat.le_refl _) B).block w.heap.size (by omega)]
    exact new_blk w A _ rfl
  · exact new_blk (w.alloc A) B _ h1.symm
theorem finl_of {zs : List Nat} (h : ∀ z, z ∈ zs → z < 18446744073709551616 ∧ z % 9223372036854775808 < 9218868437227405312) : FinL zs := fun i hi => by
  have : zs.getD i 0 ∈ zs := by rw [List.getD_eq_getElem?_getD, List.getElem?_eq_getElem hi]; exact List.getElem_mem hi
  exact h _ this
theorem bitl_of {zs : List Nat} (h : ∀ z, z ∈ zs → z < 18446744073709551616) : BitL zs := fun i hi => by
  have : zs.getD i 0 ∈ zs := by rw [List.getD_eq_getElem?_getD, List.getElem?_eq_getElem hi]; exact List.getElem_mem hi
  exact h _ this
def finB (x : Nat) : Bool := !(expOf x == 2047)
theorem finB_is (x : Nat) (h : finB x = true) : x % 9223372036854775808 < 9218868437227405312 := by
  unfold finB at h
  have h1 : expOf x ≠ 2047 := by simpa using h
  unfold expOf canonOf at h1
  split at h1 <;> omega
theorem finB_flip (x : Nat) (hx : x < 18446744073709551616) : finB (flipOf x) = finB x := by unfold finB; rw [exp_flip x hx]
/-- The sign, and the error. -/
def detV (a b c d : Nat) : Int := sv a * sv d - sv b * sv c
def detF (a b c d : Nat) : Bool := finB a && finB b && finB c && finB d
def detS (a b c d : Nat) : Int := if detF a b c d then sgnE (detV a b c d) else 0
def detE (a b c d : Nat) : Int := if detF a b c d then 0 else 4
end Go.Proofs.YtpjdmhidhllbkaaGreatDoor

namespace Go.Proofs.YtpjdmhidhllbkaaGreatDoor
open Go.RowKit Go.IntWalk

def turnV (p q r s t u : Nat) : Int := sv p * sv s - sv p * sv u + sv r * sv u - sv r * sv q + sv t * sv q - sv t * sv s
def turnF (p q r s t u : Nat) : Bool := finB p && finB q && finB r && finB s && finB t && finB u
def turnS (p q r s t u : Nat) : Int := if turnF p q r s t u then sgnE (turnV p q r s t u) else 0
def turnE (p q r s t u : Nat) : Int := if turnF p q r s t u then 0 else 4
theorem turn_cycle (p q r s t u : Nat) : turnS r s t u p q = turnS p q r s t u ∧ turnE r s t u p q = turnE p q r s t u := by
  have h1 : turnF r s t u p q = turnF p q r s t u := by
    unfold turnF
    cases finB p <;> cases finB q <;> cases finB r <;> cases finB s <;> cases finB t <;> cases finB u <;> rfl
  have h2 : turnV r s t u p q = turnV p q r s t u := by unfold turnV; omega
  unfold turnS turnE
  rw [h1, h2]
  exact ⟨rfl, rfl⟩
theorem turn_swap (p q r s t u : Nat) : turnS r s p q t u = -turnS p q r s t u ∧ turnE r s p q t u = turnE p q r s t u := by
  have h1 : turnF r s p q t u = turnF p q r s t u := by
    unfold turnF
    cases finB p <;> cases finB q <;> cases finB r <;> cases finB s <;> cases finB t <;> cases finB u <;> rfl
  have h2 : turnV r s p q t u = -turnV p q r s t u := by unfold turnV; omega
  unfold turnS turnE
  rw [h1, h2, sgnE_neg]
  refine ⟨?_, rfl⟩
  split <;> simp
theorem det_swap (a b c d : Nat) : detS c d a b = -detS a b c d ∧ detE c d a b = detE a b c d ∧ detS b a d c = -detS a b c d ∧ detE b a d c = detE a b c d := by
  have h1 : detF c d a b = detF a b c d ∧ detF b a d c = detF a b c d := by
    unfold detF
    cases finB a <;> cases finB b <;> cases finB c <;> cases finB d <;> exact ⟨rfl, rfl⟩
  have h2 : detV c d a b = -detV a b c d := by unfold detV; rw [Int.mul_comm (sv c), Int.mul_comm (sv d)]; omega
  have h3 : detV b a d c = -detV a b c d := by unfold detV; omega
  unfold detS detE
  rw [h1.1, h1.2, h2, h3, sgnE_neg]
  refine ⟨?_, rfl, ?_, rfl⟩ <;> (split <;> simp)
theorem turnS_le (p q r s t u : Nat) : -1 ≤ turnS p q r s t u ∧ turnS p q r s t u ≤ 1 := by
  unfold turnS
  split
  · exact sgnE_le _
  · omega
theorem detS_le (a b c d : Nat) : -1 ≤ detS a b c d ∧ detS a b c d ≤ 1 := by
  unfold detS
  split
  · exact sgnE_le _
  · omega
end Go.Proofs.YtpjdmhidhllbkaaGreatDoor
