
/- A finite number's dyad: its value in steps of 2^-1074; what dyad's Of answers for any number; variables that hold dyads. -/
import Derived.Test.YtphdinjmkhefmaaGreatDoorP27
import Derived.Test.YtphdinjmkhefmaaGreatDoorP8
import Derived.Test.YtphdinjmkhefmaaGreatDoorP19
namespace Go.Proofs.YtphdinjmkhefmaaGreatDoor
open Go.RowKit Go.IntWalk

/-- A variable that holds a dyad. -/
def DyVar (W : World) (b : Nat) (neg : Bool) (a : Option Addr) (n cap : Nat) (e' z e : Int) : Prop := W.heap[b]? = some (DyBox neg a n cap e') ∧ DyAt W neg a n cap e' z e
theorem DyVar.below {W W' : World} {b : Nat} {neg : Bool} {a : Option Addr} {n cap : Nat} {e' z e : Int} (h : DyVar W b neg a n cap e' z e) (hb : Below W.heap.size W W') : DyVar W' b neg a n cap e' z e :=
  ⟨by rw [hb.block b (Array.getElem?_eq_some_iff.1 h.1).1]; exact h.1, h.2.below hb⟩
theorem DyVar.new {Z e e' : Int} {B : Nat} {neg : Bool} {a : Option Addr} {n cap : Nat} {w : World} (h : DyRet Z e B neg a n cap e' w) : DyVar (w.alloc (DyBox neg a n cap e')) w.heap.size neg a n cap e' Z e :=
  ⟨new_blk _ _ _ rfl, h.at.below ((Below.refl _ _).alloc (Nat.le_refl _) _)⟩
theorem DyVar.cells {W : World} {b : Nat} {neg : Bool} {a : Option Addr} {n cap : Nat} {e' z e : Int} (h : DyVar W b neg a n cap e' z e) : W.cell? ⟨b, 0, none⟩ = some (.bool neg) ∧ W.cell? ⟨b, 1, none⟩ = some (.slice a n cap) ∧ W.cell? ⟨b, 2, none⟩ = some (.int .i64 e') := dcells_of h.1
theorem abs_add {a b : Int} {n : Nat} (ha : a.natAbs < 2 ^ n) (hb : b.natAbs < 2 ^ n) : (a + b).natAbs < 2 ^ (n + 1) := by
  have := Int.natAbs_add_le a b
  rw [Nat.pow_succ]
  omega
theorem abs_mul {a b : Int} {n m : Nat} (ha : a.natAbs < 2 ^ n) (hb : b.natAbs < 2 ^ m) : (a * b).natAbs < 2 ^ (n + m) := by
  rw [Int.natAbs_mul, Nat.pow_add]
  have h1 : a.natAbs * b.natAbs ≤ a.natAbs * 2 ^ m := Nat.mul_le_mul_left _ (Nat.le_of_lt hb)
  have h2 : a.natAbs * 2 ^ m < 2 ^ n * 2 ^ m := Nat.mul_lt_mul_of_pos_right ha (Nat.two_pow_pos m)
  omega
theorem abs_more {a : Int} {n m : Nat} (ha : a.natAbs < 2 ^ n) (h : n ≤ m) : a.natAbs < 2 ^ m := Nat.lt_of_lt_of_le ha (Nat.pow_le_pow_right (by decide) h)
def kN : Nat := 2098
theorem kN_is : kN = 2098 := rfl
/-- A finite number in steps of 2^-1074. -/
theorem sv_parts (x : Nat) (hf : x % 9223372036854775808 < 9218868437227405312) : ∃ k : Nat, sgnN (pNeg x) (pMant x) * 2 ^ k = sv x ∧ pExp x - k = -1074 ∧ (sv x).natAbs < 2 ^ kN ∧ pErr x = 0 ∧ -1074 ≤ pExp x ∧ pExp x ≤ 2000 ∧ pMant x < 18446744073709551616 := by
  obtain ⟨v1, v2, v3, v4, v5⟩ := parts_val x hf
  have hN : pNeg x = decide (9223372036854775808 ≤ x) := by unfold pNeg; rw [if_neg v1, v2]
  have hE : pErr x = 0 := by unfold pErr; rw [if_neg v1]
  have hsv : sv x = sgnN (pNeg x) (nv (x % 9223372036854775808)) := by
    unfold sv sgnN
    rw [hN]
    by_cases c : 9223372036854775808 ≤ x
    · rw [if_pos c, decide_eq_true c, if_pos rfl]
    · rw [if_neg c, decide_eq_false c, if_neg (by decide)]
  have habs : (sv x).natAbs = nv (x % 9223372036854775808) := by
    rw [hsv]
    unfold sgnN
    split <;> simp
  by_cases h0 : mantOf x = 0
  · have hx0 := v4.1 h0
    have hm : pMant x = 0 := by
      unfold pMant
      rw [if_neg v1, h0]
      exact Nat.zero_div _
    have hp : pExp x = 0 := by unfold pExp; rw [if_pos (Or.inr h0)]
    have hz : sv x = 0 := by
      rw [hsv, hx0, nv_zero]
      unfold sgnN
      split <;> rfl
    refine ⟨1074, ?_, by rw [hp]; rfl, ?_, hE, by rw [hp]; decide, by rw [hp]; decide, by rw [hm]; decide⟩
    · rw [hm, hz]
      have : sgnN (pNeg x) 0 = 0 := by unfold sgnN; split <;> rfl
      rw [this, Int.zero_mul]
    · rw [hz, Int.natAbs_zero]; exact Nat.two_pow_pos kN
  · obtain ⟨p1, p2, p3, p4, p5, p6⟩ := v5 h0
    have hbp := bitLen_pos p1
    refine ⟨(pExp x + 1074).toNat, ?_, by omega, ?_, hE, p2, by omega, p6⟩
    · rw [hsv, p3]
      obtain ⟨k, hk⟩ : ∃ k, (pExp x + 1074).toNat = k := ⟨_, rfl⟩
      rw [hk]
      unfold sgnN
      split
      · rw [Int.natCast_mul, Int.natCast_pow, Int.neg_mul]; rfl
      · rw [Int.natCast_mul, Int.natCast_pow]; rfl
    · rw [habs, p3]
      have h1 : pMant x < 2 ^ bitLen (pMant x) := bitLen_hi _
      have h2 : pMant x * 2 ^ (pExp x + 1074).toNat < 2 ^ bitLen (pMant x) * 2 ^ (pExp x + 1074).toNat := Nat.mul_lt_mul_of_pos_right h1 (Nat.two_pow_pos _)
      rw [← Nat.pow_add] at h2
      have hk := kN_is
      exact Nat.lt_of_lt_of_le h2 (Nat.pow_le_pow_right (by decide) (by omega))
/-- dyad's Of of a finite number. -/
theorem Of_fin (x : Nat) (w : World) (hx : x < 18446744073709551616) (hf : x % 9223372036854775808 < 9218868437227405312) (hT : Tab w) (hg : 2 < w.heap.size) (hT3 : Tab32 w) (hs : 1 < w.heap.size) :
    Calls Tryz.prog 25 #[.float .f64 x] w fun r w' => DyOut (sv x) (-1074) w.heap.size r w' ∧ Below w.heap.size w w' := by
  obtain ⟨k, k1, k2, k3, k4, k5, k6, k7⟩ := sv_parts x hf
  refine (Of_parts x (pMant x) (pNeg x) (pExp x) w k7 (by omega) (by omega) hT3 hs (fun W hW => ?_)).mono ?_
  · have := Parts_any x W hx (hT.below hg hW) (Nat.lt_of_lt_of_le hg hW.size)
    rw [k4] at this
    exact this
  · rintro r w' ⟨ho, hb⟩
    have := ho.low k
    rw [k1, k2] at this
    exact ⟨this, hb⟩
set_option maxHeartbeats 400000 in
/-- Of what is not finite. -/
theorem Of_not (x : Nat) (w : World) (hx : x < 18446744073709551616) (he : pErr x = 4) (hT : Tab w) (hg : 2 < w.heap.size) :
    Calls Tryz.prog 25 #[.float .f64 x] w fun r w' => r = .returned (.tuple #[.agg #[.bool false, .slice none 0 0, .int .i64 0], .int .i64 4]) ∧ Below w.heap.size w w' := by
  have HP : Hid (∀ W, Below w.heap.size w W → Calls Tryz.prog 29 #[.float .f64 x] W fun r w' => r = .returned (.tuple #[.agg #[.bool (pNeg x), .int .u64 (pMant x), .int .i64 (pExp x)], .int .i64 4]) ∧ Below W.heap.size W w') := fun W hW => by
    have := Parts_any x W hx (hT.below hg hW) (Nat.lt_of_lt_of_le hg hW.size)
    rw [he] at this
    exact this
  obtain ⟨n, hn⟩ : ∃ n, Hid (pNeg x = n) := ⟨_, rfl⟩
  obtain ⟨m, hm⟩ : ∃ m, Hid (pMant x = m) := ⟨_, rfl⟩
  obtain ⟨E, hE⟩ : ∃ E, Hid (pExp x = E) := ⟨_, rfl⟩
  rw [hn.out, hm.out, hE.out] at HP
  clear hx he hT hg
  go_enter Tryz.func25, Tryz.ntmps25
  go_wp2_with fail
  refine (HP.out _ ((Below.refl _ _).alloc (Nat.le_refl _) _)).mono ?_
  rintro r w1 ⟨rfl, hb1⟩
  have hsz : w.heap.size < w1.heap.size := by have := hb1.size; simp at this; omega
  obtain ⟨hc, hf⟩ := bcell hb1
  have HB1 : Hid (Below w.heap.size w w1) := ((Below.refl _ _).alloc (Nat.le_refl _) _).trans (hb1.mono (by simp))
  clear hb1
  go_wp2
  exact bodyPost_ret (v := .tuple #[.agg #[.bool false, .slice none 0 0, .int .i64 0], .int .i64 4]) (by simp [results, Tryz.results25, go_sem, hc, hsz]) rfl ⟨rfl, Below.alloc (Below.setCell (Below.setCell (Below.setCell HB1.out (Nat.le_refl _) _) (Nat.le_refl _) _) (Nat.le_refl _) _) (by simp [World.setCell]; omega) _⟩
end Go.Proofs.YtphdinjmkhefmaaGreatDoor

namespace Go.Proofs.YtphdinjmkhefmaaGreatDoor
open Go.RowKit Go.IntWalk

/-- At a block lies the number v, and v * 2^e is z * 2^B. -/
def ExV (w : World) (p : Nat) (e B z : Int) (bd : Nat) : Prop := ∃ v : Int, ∃ k : Nat, NumAt w p v bd ∧ e = B + k ∧ z = v * 2 ^ k
theorem ExV.below {w w' : World} {p : Nat} {e B z : Int} {bd : Nat} (h : ExV w p e B z bd) (hb : Below w.heap.size w w') : ExV w' p e B z bd := by
  obtain ⟨v, k, h1, h2, h3⟩ := h
  exact ⟨v, k, h1.below hb, h2, h3⟩
theorem ExV.more {w : World} {p : Nat} {e B z : Int} {bd b2 : Nat} (h : ExV w p e B z bd) (hb : bd ≤ b2) : ExV w p e B z b2 := by
  obtain ⟨v, k, h1, h2, h3⟩ := h
  exact ⟨v, k, h1.more hb, h2, h3⟩
theorem xof_val (x : Nat) (fx : x % 9223372036854775808 < 9218868437227405312) : ∃ k : Nat, pExp x = -1074 + (k : Int) ∧ sv x = sgnN (pNeg x) (pMant x) * 2 ^ k ∧ pMant x < 18446744073709551616 := by
  obtain ⟨k, k1, k2, k3, k4, k5, k6, k7⟩ := sv_parts x fx
  exact ⟨k, by omega, k1.symm, k7⟩
theorem two_blk (w : World) (A B : Obj) : ((w.alloc A).alloc B).heap[w.heap.size]? = some A ∧ ((w.alloc A).alloc B).heap[w.heap.size + 1]? = some B := by
  have h1 : (w.alloc A).heap.size = w.heap.size + 1 := by simp
  constructor
  · rw [((Below.refl (w.alloc A).heap.size (w.alloc A)).alloc (Nat.le_refl _) B).block w.heap.size (by omega)]
    exact new_blk w A _ rfl
  · exact new_blk (w.alloc A) B _ h1.symm
/-- What a number's words can't lie in: a block that holds none. -/
def NoWord (w : World) (b : Nat) : Prop := ∀ o n, w.cell? ⟨b, o, none⟩ ≠ some (.int .u32 n)
theorem NumAt.away {w w' : World} {p b : Nat} {v : Int} {bd : Nat} (h : NumAt w p v bd) (hb : But b w w') (hp : p ≠ b) (hx : NoWord w b) : NumAt w' p v bd := by
  obtain ⟨neg, L, h1, h2, a, cap, ho, hcap, hm, hd, hc, hn⟩ := h
  refine ⟨neg, L, h1, h2, a, cap, (hb.block p (int_cells ho).2.2.2 hp).trans ho, hcap, fun i hi => ?_, hd, hc, hn⟩
  obtain ⟨b', off, e1, e2, e3⟩ := hm i hi
  refine ⟨b', off, e1, Nat.lt_of_lt_of_le e2 hb.size, hb.cell e3 ?_⟩
  intro c
  subst c
  exact hx _ _ e3
theorem noword_ex {w : World} {b : Nat} {q : Option Addr} {e : Int} {T : TypeId} (h : w.heap[b]? = some (.cells #[.pointer q, .int .i64 e] T)) : NoWord w b := by
  intro o n hc
  simp only [World.cell?, h] at hc
  match o, hc with
  | 0, hc => simp at hc
  | 1, hc => simp at hc
  | o + 2, hc => simp at hc
set_option maxRecDepth 4000 in
set_option maxHeartbeats 1000000 in
theorem xOf_core (x m : Nat) (neg : Bool) (E e4 : Int) (w : World) (hm : m < 18446744073709551616)
    (hP : ∀ W, Calls Tryz.prog 38 #[.float .f64 x] W fun r w' => r = .returned (.tuple #[.agg #[.bool neg, .int .u64 m, .int .i64 E], .int .i64 e4]) ∧ Below W.heap.size W w') :
    Calls Tryz.prog 21 #[.float .f64 x] w fun r w' => ∃ p, r = .returned (.agg #[.pointer (some ⟨p, 0, none⟩), .int .i64 E]) ∧ w.heap.size ≤ p ∧ NumAt w' p (sgnN neg m) 2 ∧ Below w.heap.size w w' := by
  have HP := hid hP
  clear hP
  go_enter Tryz.func21, Tryz.ntmps21
  go_wp2_with fail
  refine (HP.out _).mono ?_
  rintro r w1 ⟨rfl, hb1⟩
  have hsz1 : w.heap.size < w1.heap.size := by have := hb1.size; simp at this; omega
  have HB1 : Hid (Below w.heap.size w w1) := ((Below.refl _ _).alloc (Nat.le_refl _) _).trans (hb1.mono (by simp))
  have hbx1 : w1.heap[w.heap.size]? = some (.cells #[.pointer none, .int .i64 0] 34) := by rw [hb1.block _ (by simp)]; exact new_blk _ _ _ rfl
  clear hb1
  obtain ⟨V0, hV0⟩ : ∃ V, Hid ((w1.alloc (.cells #[.bool neg, .int .u64 m, .int .i64 E] 50)).alloc (.cells #[.bool false, .slice none 0 0] 57) = V) := ⟨_, rfl⟩
  have HZ : Hid (ZOk (w1.heap.size + 1) V0 V0) := by
    rw [← hV0.out]
    exact fresh_zok' _ _ (by simp)
  have HB0 : Hid (Below w.heap.size w V0) := by
    rw [← hV0.out]
    exact (HB1.out.alloc (Nat.le_of_lt hsz1) _).alloc (by simp; omega) _
  have HS0 : Hid (V0.heap.size = w1.heap.size + 2) := by
    show V0.heap.size = _
    rw [← hV0.out]
    simp
  have HK : Hid (∀ W, But (w1.heap.size + 1) V0 W → (W.cell? ⟨w1.heap.size, 0, none⟩ = some (.bool neg) ∧ W.cell? ⟨w1.heap.size, 1, none⟩ = some (.int .u64 m) ∧ W.cell? ⟨w1.heap.size, 2, none⟩ = some (.int .i64 E)) ∧ W.heap[w.heap.size]? = some (.cells #[.pointer none, .int .i64 0] 34)) := fun W hW => by
    obtain ⟨b1, b2⟩ := two_blk w1 (.cells #[.bool neg, .int .u64 m, .int .i64 E] 50) (.cells #[.bool false, .slice none 0 0] 57)
    rw [hV0.out] at b1 b2
    have e1 := (hW.block w1.heap.size (by rw [HS0.out]; omega) (by omega)).trans b1
    refine ⟨⟨by simp [World.cell?, e1], by simp [World.cell?, e1], by simp [World.cell?, e1]⟩, ?_⟩
    rw [hW.block w.heap.size (by rw [HS0.out]; omega) (by omega), ← hV0.out]
    show ((w1.alloc _).alloc _).heap[w.heap.size]? = _
    rw [((Below.refl w1.heap.size w1).alloc (Nat.le_refl _) _ |>.alloc (by simp) _).block _ hsz1]
    exact hbx1
  go_wp2_with fail
  rw [hV0.out]
  refine (NSetU _ m _ HZ.out hm).mono ?_
  rintro r w2 ⟨rfl, hn2, hbt2⟩
  have HN2 := hid hn2
  have HBT2 := hid hbt2
  obtain ⟨⟨p0, p1, p2⟩, hx2⟩ := HK.out _ hbt2
  have HX2 := hid hx2
  clear hn2 hbt2
  cases neg
  · have q0 : w2.cell? ⟨w.heap.size, 0, none⟩ = some (.pointer none) := by simp [World.cell?, hx2]
    have q1 : w2.cell? ⟨w.heap.size, 1, none⟩ = some (.int .i64 0) := by simp [World.cell?, hx2]
    have q2 : ∀ o, w2.frozen? ⟨w.heap.size, o, none⟩ = false := fun o => by simp [World.frozen?, hx2]
    clear hx2
    have HNW : Hid (NoWord w2 w.heap.size) := noword_ex HX2.out
    have HBE : Hid (Below w.heap.size w w2) := HB0.out.trans (HBT2.out.below HB0.out.size (by omega))
    go_wp2
    exact bodyPost_ret (v := .agg #[.pointer (some ⟨w1.heap.size + 1, 0, none⟩), .int .i64 E]) (by simp [results, Tryz.results21, go_sem, q0, q1]) rfl ⟨w1.heap.size + 1, rfl, by omega, HN2.out.away (But.setCell (But.setCell (But.refl _ _) 0 _) 1 _) (by omega) HNW.out, Below.setCell (Below.setCell HBE.out (Nat.le_refl _) _) (Nat.le_refl _) _⟩
  · have HZ2 : Hid (ZOk (w1.heap.size + 1) w2 w2) := HN2.out.zok
    go_wp2_with fail
    refine (NNeg _ _ _ _ _ HZ2.out HN2.out (by decide)).mono ?_
    rintro r w3 ⟨rfl, hn3, hbt3⟩
    have HN3 := hid hn3
    have HBT3 := hid (HBT2.out.trans hbt3)
    obtain ⟨⟨r0, r1, r2⟩, hx3⟩ := HK.out _ HBT3.out
    have HX3 := hid hx3
    have q0 : w3.cell? ⟨w.heap.size, 0, none⟩ = some (.pointer none) := by simp [World.cell?, hx3]
    have q1 : w3.cell? ⟨w.heap.size, 1, none⟩ = some (.int .i64 0) := by simp [World.cell?, hx3]
    have q2 : ∀ o, w3.frozen? ⟨w.heap.size, o, none⟩ = false := fun o => by simp [World.frozen?, hx3]
    have HNW : Hid (NoWord w3 w.heap.size) := noword_ex HX3.out
    have HBE : Hid (Below w.heap.size w w3) := HB0.out.trans (HBT3.out.below HB0.out.size (by omega))
    clear hn3 hbt3 hx3 p0 p1 p2
    go_wp2
    exact bodyPost_ret (v := .agg #[.pointer (some ⟨w1.heap.size + 1, 0, none⟩), .int .i64 E]) (by simp [results, Tryz.results21, go_sem, q0, q1]) rfl ⟨w1.heap.size + 1, rfl, by omega, HN3.out.away (But.setCell (But.setCell (But.refl _ _) 0 _) 1 _) (by omega) HNW.out, Below.setCell (Below.setCell HBE.out (Nat.le_refl _) _) (Nat.le_refl _) _⟩
/-- Of of a finite number, in steps of 2^-1074. -/
theorem xOf_fin (x : Nat) (w : World) (hx : x < 18446744073709551616) (fx : x % 9223372036854775808 < 9218868437227405312) :
    Calls Tryz.prog 21 #[.float .f64 x] w fun r w' => ∃ p e, r = .returned (.agg #[.pointer (some ⟨p, 0, none⟩), .int .i64 e]) ∧ (-1074 ≤ e ∧ e ≤ 2000) ∧ ExV w' p e (-1074) (sv x) 2 ∧ Below w.heap.size w w' := by
  obtain ⟨k, k1, k2, k3, k4, k5, k6, k7⟩ := sv_parts x fx
  refine (xOf_core x (pMant x) (pNeg x) (pExp x) (pErr x) w k7 (fun W => rParts_any x W hx)).mono ?_
  rintro r w' ⟨p, rfl, hp, hn, hb⟩
  exact ⟨p, pExp x, rfl, ⟨k5, k6⟩, ⟨_, k, hn, by omega, k1.symm⟩, hb⟩
end Go.Proofs.YtphdinjmkhefmaaGreatDoor
