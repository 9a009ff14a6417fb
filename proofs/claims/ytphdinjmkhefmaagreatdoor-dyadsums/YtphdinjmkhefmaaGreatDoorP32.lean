
/- What dyad's Add does, by the numbers that its dyads stand for. -/
import Derived.Test.YtphdinjmkhefmaaGreatDoorP31
import Derived.Test.YtphdinjmkhefmaaGreatDoorP30
namespace Go.Proofs.YtphdinjmkhefmaaGreatDoor
open Go.RowKit Go.IntWalk

/-- A dyad in memory, and the number z * 2^e that it stands for. -/
def DyAt (w : World) (neg : Bool) (a : Option Addr) (n cap : Nat) (e' z e : Int) : Prop := ∃ L, L.length = n ∧ n ≤ cap ∧ MagAt w a L ∧ DyV neg L e' z e ∧ DyMay neg L e'
theorem DyRet.at {Z e e' : Int} {B : Nat} {neg : Bool} {a : Option Addr} {n cap : Nat} {w : World} (h : DyRet Z e B neg a n cap e' w) : DyAt w neg a n cap e' Z e := by
  obtain ⟨neg1, L, a1, cap1, e1, h0, h1, h2, h3, h4, h5⟩ := h
  cases h0
  exact ⟨L, rfl, h1, h2, h3, h4⟩
theorem DyAt.below {w w' : World} {neg : Bool} {a : Option Addr} {n cap : Nat} {e' z e : Int} (h : DyAt w neg a n cap e' z e) (hb : Below w.heap.size w w') : DyAt w' neg a n cap e' z e := by
  obtain ⟨L, h1, h2, h3, h4, h5⟩ := h
  exact ⟨L, h1, h2, h3.below hb, h4, h5⟩
theorem DyAt.may {w : World} {neg : Bool} {a : Option Addr} {n cap : Nat} {e' z e : Int} (h : DyAt w neg a n cap e' z e) : Calls Tryz.prog 47 #[.agg #[.bool neg, .slice a n cap, .int .i64 e']] w fun r w' => r = .returned (.bool true) ∧ Below w.heap.size w w' := by
  obtain ⟨L, rfl, h2, h3, h4, h5⟩ := h
  exact May_yes neg L a cap e' w h3 h5
theorem DyV.conv {n : Bool} {L : List Nat} {e' S m T e : Int} {i j : Nat} (h : DyV n L e' S m) (h1 : S * 2 ^ i = T * 2 ^ j) (h2 : m - i = e - j) : DyV n L e' T e := by
  have := h.low i
  rw [h1, h2] at this
  have := this.high
  rwa [show e - (j : Int) + (j : Int) = e by omega] at this
theorem DyOut.conv {S m T e : Int} {B : Nat} {r : Ending} {w : World} {i j : Nat} (h : DyOut S m B r w) (h1 : S * 2 ^ i = T * 2 ^ j) (h2 : m - i = e - j) : DyOut T e B r w := by
  obtain ⟨neg, L, a, cap, e', rfl, g1, g2, g3, g4, g5⟩ := h
  exact ⟨neg, L, a, cap, e', rfl, g1, g2, g3.conv h1 h2, g4, g5⟩
theorem intL_abs (n : Bool) (L : List Nat) : (intL n L).natAbs = natL L := by unfold intL; cases n <;> simp
/-- How long a dyad's words are, and where its exponent lies. -/
theorem DyV.size {n : Bool} {L : List Nat} {e' z e : Int} {N : Nat} (h : DyV n L e' z e) (hz : z.natAbs < 2 ^ N) (hN : N ≤ 6400) (he1 : -3000 ≤ e) (he2 : e ≤ 3000) : L.length ≤ 201 ∧ -3000 ≤ e' ∧ e' ≤ 9400 := by
  have hc := h.2.1
  rcases h.val with ⟨z0, l0, m0, x0⟩ | ⟨l0, o0, z0, k, hk, hx⟩
  · rw [l0, x0]; exact ⟨by simp, by decide, by decide⟩
  · have ha : natL L * 2 ^ k = z.natAbs := by rw [← hk, Int.natAbs_mul, intL_abs, Int.natAbs_pow]; rfl
    have hn1 : 1 ≤ natL L := by omega
    have hp := Nat.two_pow_pos k
    have h1 : 2 ^ k ≤ z.natAbs := by rw [← ha]; exact Nat.le_mul_of_pos_left _ hn1
    have h2 : natL L ≤ z.natAbs := by rw [← ha]; exact Nat.le_mul_of_pos_right _ hp
    have hkN : k < N := (Nat.pow_lt_pow_iff_right (by decide)).1 (Nat.lt_of_le_of_lt h1 hz)
    have h3 := natL_ge L l0 hc
    rw [pow32] at h3
    have h4 : 32 * (L.length - 1) < N := (Nat.pow_lt_pow_iff_right (by decide)).1 (Nat.lt_of_le_of_lt h3 (Nat.lt_of_le_of_lt h2 hz))
    omega
/-- A sum at the lesser exponent is the sum. -/
theorem sum_conv (i1 i2 z1 z2 e e1 e2 m : Int) (i j : Nat) (hi : e1 - m = (i : Int)) (hj : e2 - m = (j : Int)) (h1 : (z1 = 0 ∧ i1 = 0) ∨ ∃ k : Nat, i1 * 2 ^ k = z1 ∧ e1 = e + k) (h2 : (z2 = 0 ∧ i2 = 0) ∨ ∃ k : Nat, i2 * 2 ^ k = z2 ∧ e2 = e + k) : ∃ p q : Nat, (i1 * 2 ^ i + i2 * 2 ^ j) * 2 ^ p = (z1 + z2) * 2 ^ q ∧ m - p = e - q := by
  refine ⟨(m - min m e).toNat, (e - min m e).toNat, ?_, by omega⟩
  have key : ∀ (a z x : Int) (t : Nat), x - m = (t : Int) → ((z = 0 ∧ a = 0) ∨ ∃ k : Nat, a * 2 ^ k = z ∧ x = e + k) → a * 2 ^ t * 2 ^ (m - min m e).toNat = z * 2 ^ (e - min m e).toNat := by
    intro a z x t ht h
    rcases h with ⟨h, h'⟩ | ⟨k, h, hx⟩
    · rw [h, h', Int.zero_mul, Int.zero_mul, Int.zero_mul]
    · rw [← h, Int.mul_assoc, Int.mul_assoc, ← Int.pow_add, ← Int.pow_add]
      congr 2
      omega
  rw [Int.add_mul, Int.add_mul, key i1 z1 e1 i hi h1, key i2 z2 e2 j hj h2]
/-- added, by what the dyads stand for. -/
theorem added_dy (n1 n2 : Bool) (a1 a2 : Option Addr) (l1 l2 c1 c2 N : Nat) (e1 e2 z1 z2 e : Int) (w : World) (h1 : DyAt w n1 a1 l1 c1 e1 z1 e) (h2 : DyAt w n2 a2 l2 c2 e2 z2 e) (hz1 : z1.natAbs < 2 ^ N) (hz2 : z2.natAbs < 2 ^ N) (hN : N ≤ 6400) (he1 : -3000 ≤ e) (he2 : e ≤ 3000) (hT : Tab32 w) (hs : 1 < w.heap.size) :
    Calls Tryz.prog 48 #[.agg #[.bool n1, .slice a1 l1 c1, .int .i64 e1], .agg #[.bool n2, .slice a2 l2 c2, .int .i64 e2]] w fun r w' => DyOut (z1 + z2) e w.heap.size r w' ∧ Below w.heap.size w w' := by
  obtain ⟨L1, rfl, _, m1, v1, _⟩ := h1
  obtain ⟨L2, rfl, _, m2, v2, _⟩ := h2
  obtain ⟨s1, s2, s3⟩ := v1.size hz1 hN he1 he2
  obtain ⟨t1, t2, t3⟩ := v2.size hz2 hN he1 he2
  obtain ⟨m, hm⟩ : ∃ m, min e1 e2 = m := ⟨_, rfl⟩
  obtain ⟨i, hi⟩ := Int.eq_ofNat_of_zero_le (show 0 ≤ e1 - m by omega)
  obtain ⟨j, hj⟩ := Int.eq_ofNat_of_zero_le (show 0 ≤ e2 - m by omega)
  refine (added_any n1 n2 L1 L2 a1 a2 c1 c2 i j 600 e1 e2 m w m1 m2 v1.1 v2.1 (by omega) (by omega) (by decide) hm hi hj (by omega) (by omega) hT hs).mono ?_
  rintro r w' ⟨ho, hb⟩
  have g1 : (z1 = 0 ∧ intL n1 L1 = 0) ∨ ∃ k : Nat, intL n1 L1 * 2 ^ k = z1 ∧ e1 = e + k := by
    rcases v1.val with ⟨z0, l0, m0, x0⟩ | ⟨_, _, _, k, hk⟩
    · exact Or.inl ⟨z0, by rw [l0, m0]; rfl⟩
    · exact Or.inr ⟨k, hk⟩
  have g2 : (z2 = 0 ∧ intL n2 L2 = 0) ∨ ∃ k : Nat, intL n2 L2 * 2 ^ k = z2 ∧ e2 = e + k := by
    rcases v2.val with ⟨z0, l0, m0, x0⟩ | ⟨_, _, _, k, hk⟩
    · exact Or.inl ⟨z0, by rw [l0, m0]; rfl⟩
    · exact Or.inr ⟨k, hk⟩
  obtain ⟨p, q, q1, q2⟩ := sum_conv _ _ z1 z2 e e1 e2 m i j hi hj g1 g2
  exact ⟨ho.conv q1 q2, hb⟩
set_option maxRecDepth 4000 in
set_option maxHeartbeats 2000000 in
theorem Add_dy (n1 n2 : Bool) (a1 a2 : Option Addr) (l1 l2 c1 c2 N : Nat) (e1 e2 z1 z2 e : Int) (w : World) (h1 : DyAt w n1 a1 l1 c1 e1 z1 e) (h2 : DyAt w n2 a2 l2 c2 e2 z2 e) (hz1 : z1.natAbs < 2 ^ N) (hz2 : z2.natAbs < 2 ^ N) (hN : N ≤ 6400) (he1 : -3000 ≤ e) (he2 : e ≤ 3000) (hT : Tab32 w) (hs : 1 < w.heap.size) :
    Calls Tryz.prog 26 #[.agg #[.bool n1, .slice a1 l1 c1, .int .i64 e1], .agg #[.bool n2, .slice a2 l2 c2, .int .i64 e2]] w fun r w' => DyOut (z1 + z2) e w.heap.size r w' ∧ Below w.heap.size w w' := by
  obtain ⟨f1, f2, f3, f4, f5⟩ := AdW.facts w n1 n2 a1 a2 l1 l2 c1 c2 e1 e2
  have HM1 : Hid (∀ W, Below w.heap.size w W → Calls Tryz.prog 47 #[.agg #[.bool n1, .slice a1 l1 c1, .int .i64 e1]] W fun r w' => r = .returned (.bool true) ∧ Below W.heap.size W w') := fun W hW => (h1.below hW).may
  have HM2 : Hid (∀ W, Below w.heap.size w W → Calls Tryz.prog 47 #[.agg #[.bool n2, .slice a2 l2 c2, .int .i64 e2]] W fun r w' => r = .returned (.bool true) ∧ Below W.heap.size W w') := fun W hW => (h2.below hW).may
  have HAD : Hid (∀ W, Below w.heap.size w W → Calls Tryz.prog 48 #[.agg #[.bool n1, .slice a1 l1 c1, .int .i64 e1], .agg #[.bool n2, .slice a2 l2 c2, .int .i64 e2]] W fun r w' => DyOut (z1 + z2) e W.heap.size r w' ∧ Below W.heap.size W w') := fun W hW => added_dy n1 n2 a1 a2 l1 l2 c1 c2 N e1 e2 z1 z2 e W (h1.below hW) (h2.below hW) hz1 hz2 hN he1 he2 (hT.below hs hW) (Nat.lt_of_lt_of_le hs hW.size)
  obtain ⟨W0, hW0⟩ : ∃ W0, Hid (AdW w n1 n2 a1 a2 l1 l2 c1 c2 e1 e2 = W0) := ⟨_, rfl⟩
  have hW0' : AdW w n1 n2 a1 a2 l1 l2 c1 c2 e1 e2 = W0 := hW0.out
  rw [hW0'] at f1 f2 f3 f4 f5
  unfold AdW AlW DyBox at hW0'
  have HF := hid (And.intro f1 (And.intro f2 (And.intro f3 (And.intro f4 f5))))
  have hc1 := dcells_of f3
  have hc2 := dcells_of f4
  unfold DCells at hc1 hc2
  obtain ⟨p10, p11, p12⟩ := hc1
  obtain ⟨p20, p21, p22⟩ := hc2
  clear h1 h2 hz1 hz2 hN he1 he2 hT hs f1 f2 f3 f4 f5
  go_enter Tryz.func26, Tryz.ntmps26
  go_wp2_with fail
  refine (HM1.out _ HF.out.2.1).mono ?_
  rintro r w1 ⟨rfl, hb1⟩
  have HB1 := hid hb1
  have HR1 : Hid (Res (w.heap.size + 1 + 1) W0 w1) := Res.call ⟨But.refl _ _, _, _, _, HF.out.2.2.2.2⟩ hb1
  have HBW1 : Hid (Below w.heap.size w w1) := HF.out.2.1.trans (hb1.mono HF.out.2.1.size)
  have q10 : w1.cell? ⟨w.heap.size, 0, none⟩ = some (.bool n1) := HR1.out.but.cell p10 (by omega)
  have q11 : w1.cell? ⟨w.heap.size, 1, none⟩ = some (.slice a1 l1 c1) := HR1.out.but.cell p11 (by omega)
  have q12 : w1.cell? ⟨w.heap.size, 2, none⟩ = some (.int .i64 e1) := HR1.out.but.cell p12 (by omega)
  have q20 : w1.cell? ⟨w.heap.size + 1, 0, none⟩ = some (.bool n2) := HR1.out.but.cell p20 (by omega)
  have q21 : w1.cell? ⟨w.heap.size + 1, 1, none⟩ = some (.slice a2 l2 c2) := HR1.out.but.cell p21 (by omega)
  have q22 : w1.cell? ⟨w.heap.size + 1, 2, none⟩ = some (.int .i64 e2) := HR1.out.but.cell p22 (by omega)
  clear hb1
  go_wp2_with fail
  refine (HM2.out _ HBW1.out).mono ?_
  rintro r w2 ⟨rfl, hb2⟩
  have HR2 : Hid (Res (w.heap.size + 1 + 1) W0 w2) := HR1.out.call hb2
  have HBW2 : Hid (Below w.heap.size w w2) := HBW1.out.trans (hb2.mono HBW1.out.size)
  have r10 : w2.cell? ⟨w.heap.size, 0, none⟩ = some (.bool n1) := HR2.out.but.cell p10 (by omega)
  have r11 : w2.cell? ⟨w.heap.size, 1, none⟩ = some (.slice a1 l1 c1) := HR2.out.but.cell p11 (by omega)
  have r12 : w2.cell? ⟨w.heap.size, 2, none⟩ = some (.int .i64 e1) := HR2.out.but.cell p12 (by omega)
  have r20 : w2.cell? ⟨w.heap.size + 1, 0, none⟩ = some (.bool n2) := HR2.out.but.cell p20 (by omega)
  have r21 : w2.cell? ⟨w.heap.size + 1, 1, none⟩ = some (.slice a2 l2 c2) := HR2.out.but.cell p21 (by omega)
  have r22 : w2.cell? ⟨w.heap.size + 1, 2, none⟩ = some (.int .i64 e2) := HR2.out.but.cell p22 (by omega)
  have hz2 : w.heap.size + 1 + 1 < w2.heap.size := HR2.out.facts.2.1
  clear hb2 q10 q11 q12 q20 q21 q22
  go_wp2_with fail
  refine (HAD.out _ HBW2.out).mono ?_
  rintro r w3 ⟨ho, hb3⟩
  obtain ⟨neg', b', k', d', x', rfl, hr⟩ := ho.ret
  have HR3 : Hid (Res (w.heap.size + 1 + 1) W0 w3) := HR2.out.call hb3
  have HRT : Hid (DyRet (z1 + z2) e (w.heap.size + 1 + 1 + 1) neg' b' k' d' x' w3) := DyOut.but hr (But.refl (w.heap.size + 1 + 1) _) hz2 hz2
  obtain ⟨fz, _, v0, v1, v2, c0, c1', c2'⟩ := HR3.out.facts
  have HBF := hid HF.out.2.1
  clear hr ho hb3 HF
  go_wp2
  exact bodyPost_ret (v := .tuple #[.agg #[.bool neg', .slice b' k' d', .int .i64 x'], .int .i64 0]) (by simp [results, Tryz.results26, go_sem, c0, c1', c2']) rfl (res_end HBF.out (by omega) HRT HR3)
end Go.Proofs.YtphdinjmkhefmaaGreatDoor

namespace Go.Proofs.YtphdinjmkhefmaaGreatDoor
open Go.RowKit Go.IntWalk

/-- The words from a place on. -/
def seg (b : Nat) (o : Nat → Nat) : Nat → Nat := fun j => o (b + j)
def digN (V t : Nat) : Nat := V / 4294967296 ^ t % 4294967296
/-- What holds ahead of the t-th round of put. -/
def PutI (o0 o : Nat → Nat) (b q s V c U t : Nat) : Prop :=
  natF (seg b o) 134 + 4294967296 ^ (q + t) * (c + U) = natF (seg b o0) 134 + 4294967296 ^ q * (V % 4294967296 ^ t * 2 ^ s) ∧ c ≤ 1 ∧ U < 2 ^ s ∧ (∀ j, o j < 4294967296) ∧ ∀ j, (j < b ∨ b + 134 ≤ j) → o j = o0 j
theorem PutI.zero (o : Nat → Nat) (b q s V : Nat) (ho : ∀ j, o j < 4294967296) : PutI o o b q s V 0 0 0 := by
  refine ⟨?_, by decide, Nat.two_pow_pos s, ho, fun _ _ => rfl⟩
  rw [Nat.pow_zero, Nat.mod_one, Nat.zero_mul, Nat.mul_zero, Nat.mul_zero]
theorem seg_set (b : Nat) (o : Nat → Nat) (i v : Nat) : seg b (fun j => if j = b + i then v else o j) = fun j => if j = i then v else seg b o j := by
  funext j
  show (if b + j = b + i then v else o (b + j)) = if j = i then v else o (b + j)
  by_cases h : j = i
  · rw [if_pos (by omega), if_pos h]
  · rw [if_neg (by omega), if_neg h]
theorem PutI.step {o0 o : Nat → Nat} {b q s V c U t : Nat} (h : PutI o0 o b q s V c U t) (hs : s < 32) (ht : q + t < 134) :
    PutI o0 (fun j => if j = b + (q + t) then (c + (o (b + (q + t)) + (U + digN V t * 2 ^ s) % 4294967296)) % 4294967296 else o j) b q s V ((c + (o (b + (q + t)) + (U + digN V t * 2 ^ s) % 4294967296)) / 4294967296) ((U + digN V t * 2 ^ s) / 4294967296) (t + 1) ∧ U + digN V t * 2 ^ s < 18446744073709551616 := by
  obtain ⟨h1, h2, h3, h4, h5⟩ := h
  have hd : digN V t < 4294967296 := Nat.mod_lt _ (by decide)
  have hx := h4 (b + (q + t))
  have hp := Nat.two_pow_pos s
  have h32 : (2 : Nat) ^ s ≤ 2 ^ 32 := Nat.pow_le_pow_right (by decide) (by omega)
  have e32 : (2 : Nat) ^ 32 = 4294967296 := by decide
  have hT : U + digN V t * 2 ^ s < 4294967296 * 2 ^ s := by
    have : (digN V t + 1) * 2 ^ s ≤ 4294967296 * 2 ^ s := Nat.mul_le_mul_right _ hd
    rw [Nat.add_mul, Nat.one_mul] at this
    omega
  have hT2 : U + digN V t * 2 ^ s < 18446744073709551616 := by
    have : 4294967296 * 2 ^ s ≤ 4294967296 * 4294967296 := Nat.mul_le_mul_left _ (by omega)
    omega
  have hmod : V % 4294967296 ^ (t + 1) = V % 4294967296 ^ t + 4294967296 ^ t * digN V t := by
    unfold digN
    rw [Nat.pow_succ, Nat.mod_mul]
  obtain ⟨T, hTT⟩ : ∃ T, U + digN V t * 2 ^ s = T := ⟨_, rfl⟩
  obtain ⟨x, hxx⟩ : ∃ x, o (b + (q + t)) = x := ⟨_, rfl⟩
  rw [hTT] at hT hT2 ⊢
  rw [hxx] at hx ⊢
  refine ⟨⟨?_, by omega, ?_, fun j => ?_, fun j hj => ?_⟩, hT2⟩
  · rw [seg_set]
    have e1 := natF_set (seg b o) 134 (q + t) ((c + (x + T % 4294967296)) % 4294967296) ht
    have e2 : seg b o (q + t) = x := hxx
    rw [e2] at e1
    have e3 : 4294967296 ^ q * (4294967296 ^ t * digN V t * 2 ^ s) = 4294967296 ^ (q + t) * (digN V t * 2 ^ s) := by
      rw [Nat.mul_assoc, ← Nat.mul_assoc, ← Nat.pow_add]
    have hr : 4294967296 ^ q * (V % 4294967296 ^ (t + 1) * 2 ^ s) = 4294967296 ^ q * (V % 4294967296 ^ t * 2 ^ s) + 4294967296 ^ (q + t) * (digN V t * 2 ^ s) := by rw [hmod, Nat.add_mul, Nat.mul_add, e3]
    have e4 : q + (t + 1) = q + t + 1 := by omega
    rw [hr, e4, Nat.pow_succ]
    have d1 := Nat.div_add_mod (c + (x + T % 4294967296)) 4294967296
    have d2 := Nat.div_add_mod T 4294967296
    obtain ⟨P, hP⟩ : ∃ P, 4294967296 ^ (q + t) = P := ⟨_, rfl⟩
    obtain ⟨F, hF⟩ : ∃ F, natF (seg b o) 134 = F := ⟨_, rfl⟩
    obtain ⟨F', hF'⟩ : ∃ F', natF (fun j => if j = q + t then (c + (x + T % 4294967296)) % 4294967296 else seg b o j) 134 = F' := ⟨_, rfl⟩
    obtain ⟨Z, hZ⟩ : ∃ Z, 4294967296 ^ q * (V % 4294967296 ^ t * 2 ^ s) = Z := ⟨_, rfl⟩
    obtain ⟨D, hD⟩ : ∃ D, digN V t * 2 ^ s = D := ⟨_, rfl⟩
    rw [hP, hF, hF'] at e1
    rw [hP, hF, hZ] at h1
    rw [hF', hP, hZ, hD]
    rw [hD] at hTT
    obtain ⟨R, hR⟩ : ∃ R, (c + (x + T % 4294967296)) % 4294967296 = R := ⟨_, rfl⟩
    obtain ⟨Q, hQ⟩ : ∃ Q, (c + (x + T % 4294967296)) / 4294967296 = Q := ⟨_, rfl⟩
    obtain ⟨l, hl⟩ : ∃ l, T % 4294967296 = l := ⟨_, rfl⟩
    obtain ⟨k, hk⟩ : ∃ k, T / 4294967296 = k := ⟨_, rfl⟩
    rw [hR, hQ, hl] at d1
    rw [hR] at e1
    rw [hl, hk] at d2
    rw [hQ, hk]
    have m1 : P * (4294967296 * Q + R) = P * (c + (x + l)) := by rw [d1]
    have m2 : P * (4294967296 * k + l) = P * T := by rw [d2]
    have m3 : P * T = P * U + P * D := by rw [← hTT, Nat.mul_add]
    rw [Nat.mul_add, Nat.mul_add, Nat.mul_add, ← Nat.mul_assoc] at m1
    rw [Nat.mul_add, ← Nat.mul_assoc] at m2
    rw [Nat.mul_add] at h1 ⊢
    omega
  · rw [Nat.div_lt_iff_lt_mul (by decide), Nat.mul_comm (2 ^ s)]
    exact hT
  · show (if j = b + (q + t) then _ else o j) < _
    split
    · exact Nat.mod_lt _ (by decide)
    · exact h4 j
  · show (if j = b + (q + t) then _ else o j) = _
    rw [if_neg (by omega)]
    exact h5 j hj
/-- What put has done, when nothing is carried any more. -/
theorem PutI.done {o0 o : Nat → Nat} {b q s V t : Nat} (h : PutI o0 o b q s V 0 0 t) (hV : V < 340282366920938463463374607431768211456) (ht : 4 ≤ t) : natF (seg b o) 134 = natF (seg b o0) 134 + V * 2 ^ (32 * q + s) ∧ (∀ j, o j < 4294967296) ∧ ∀ j, (j < b ∨ b + 134 ≤ j) → o j = o0 j := by
  obtain ⟨h1, _, _, h4, h5⟩ := h
  have hp : (340282366920938463463374607431768211456 : Nat) ≤ 4294967296 ^ t := by
    have : (4294967296 : Nat) ^ 4 ≤ 4294967296 ^ t := Nat.pow_le_pow_right (by decide) ht
    have e : (4294967296 : Nat) ^ 4 = 340282366920938463463374607431768211456 := by decide
    omega
  rw [Nat.mod_eq_of_lt (Nat.lt_of_lt_of_le hV hp), Nat.add_zero, Nat.mul_zero, Nat.add_zero, pow32, Nat.mul_left_comm, ← Nat.pow_add] at h1
  exact ⟨h1, h4, h5⟩
theorem PutI.last {o0 o : Nat → Nat} {b q s V c U t : Nat} (h : PutI o0 o b q s V c U t) (ht : q + t = 134) (hlt : natF (seg b o0) 134 + V * 2 ^ (32 * q + s) < 4294967296 ^ 134) : natF (seg b o) 134 = natF (seg b o0) 134 + V * 2 ^ (32 * q + s) ∧ (∀ j, o j < 4294967296) ∧ ∀ j, (j < b ∨ b + 134 ≤ j) → o j = o0 j := by
  obtain ⟨h1, _, _, h4, h5⟩ := h
  have e0 : V * 2 ^ (32 * q + s) = 4294967296 ^ q * (V * 2 ^ s) := by rw [pow32, Nat.mul_left_comm, ← Nat.pow_add]
  have hVt : V < 4294967296 ^ t := by
    apply Classical.byContradiction
    intro hc
    have a1 : 4294967296 ^ t ≤ V := by omega
    have a2 : 4294967296 ^ q * 4294967296 ^ t ≤ 4294967296 ^ q * (V * 2 ^ s) := Nat.mul_le_mul_left _ (Nat.le_trans a1 (Nat.le_mul_of_pos_right _ (Nat.two_pow_pos s)))
    rw [← Nat.pow_add, ht] at a2
    omega
  rw [Nat.mod_eq_of_lt hVt, ht, ← e0] at h1
  have hcu : c + U = 0 := by
    apply Classical.byContradiction
    intro hc
    have : 4294967296 ^ 134 * 1 ≤ 4294967296 ^ 134 * (c + U) := Nat.mul_le_mul_left _ (by omega)
    omega
  rw [hcu, Nat.mul_zero, Nat.add_zero] at h1
  exact ⟨h1, h4, h5⟩
end Go.Proofs.YtphdinjmkhefmaaGreatDoor
