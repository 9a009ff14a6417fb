
/- The numbers of a part's blocks: all finite (plain arithmetic; no program is spoken of). -/
import Derived.Test.YtggiklghcnojiaaP28
import Derived.Test.YtggiklghcnojiaaP31
namespace Go.Proofs.Ytggiklghcnojiaa
open Go Go.RowKit Go.IntWalk

def mulW (x y : Nat) : Nat := (floatBits .mul .f64 x y).getD 0
def quoW (x y : Nat) : Nat := (floatBits .quo .f64 x y).getD 0
def addW (x y : Nat) : Nat := (floatBits .add .f64 x y).getD 0
def sqrW (x : Nat) : Nat := (FloatKind.f64.format.sqrt x).getD 0
/-- A finite number that isn't below 0, at most 2^(a - 1023). -/
def Up (x a : Nat) : Prop := x < 18446744073709551616 ∧ x % 9223372036854775808 ≤ twoW a ∧ (x < 9223372036854775808 ∨ x = 9223372036854775808)
theorem Up.fin {x a : Nat} (h : Up x a) (ha : a ≤ 2046) : x < 18446744073709551616 ∧ x % 9223372036854775808 < 9218868437227405312 := ⟨h.1, by have := h.2.1; unfold twoW at this; omega⟩
theorem twoW_le {a c : Nat} (h : a ≤ c) : twoW a ≤ twoW c := Nat.mul_le_mul_right _ h
theorem Up.more {x a c : Nat} (h : Up x a) (hc : a ≤ c) : Up x c := ⟨h.1, Nat.le_trans h.2.1 (twoW_le hc), h.2.2⟩
theorem up_mul {x y a b : Nat} (hx : Up x a) (hy : Up y b) (hy0 : y < 9223372036854775808) (ha : 600 ≤ a ∧ a ≤ 1700) (hb : 600 ≤ b ∧ b ≤ 1300) (hs : 1024 ≤ a + b ∧ a + b ≤ 3000) : floatBits .mul .f64 x y = some (mulW x y) ∧ Up (mulW x y) (a + b - 1023) := by
  obtain ⟨z, e1, e2, e3, e4⟩ := mul_most x y a b (a + b - 1023) hx.1 hy.1 (by omega) (by omega) (by omega) (by omega) (by omega) (by omega) (by omega) hx.2.1 hy.2.1
  have e5 : mulW x y = z := by unfold mulW; rw [e1]; rfl
  rw [e5]
  refine ⟨e1, e2, e3, ?_⟩
  have h63 : ¬ 9223372036854775808 ≤ y := by omega
  rcases hx.2.2 with h | h
  · left
    have : ¬ 9223372036854775808 ≤ x := by omega
    have := mt e4.1 (fun q => this (q.2 h63))
    omega
  · subst h
    right
    have h := mul_rndS 9223372036854775808 y (by decide) hy.1 (by decide) (by have := hy.2.1; unfold twoW at this; omega)
    rw [show nv (9223372036854775808 % 9223372036854775808) = 0 by decide, Nat.zero_mul, decide_eq_false h63] at h
    have e6 : some z = some 9223372036854775808 := e1.symm.trans (h.trans (by unfold rndM; rw [if_pos rfl]; rfl))
    exact Option.some.inj e6
theorem up_quo {x a : Nat} (y n j : Nat) (hx : Up x a) (ha : a ≤ 2046) (hy : FloatKind.f64.format.read y = .number false n (-(j : Int))) (hn : 2 ^ (j + 1) ≤ n) (hn2 : n < 9007199254740992) (hj : j ≤ 60) : floatBits .quo .f64 x y = some (quoW x y) ∧ Up (quoW x y) a := by
  obtain ⟨z, e1, e2, e3, e4⟩ := div_most x y n j (hx.fin ha).1 (hx.fin ha).2 hy hn hn2 hj
  have e5 : quoW x y = z := by unfold quoW; rw [e1]; rfl
  rw [e5]
  refine ⟨e1, e2, Nat.le_trans e3 hx.2.1, ?_⟩
  rcases hx.2.2 with h | h
  · left; omega
  · right
    subst h
    have := e4.2 (by decide)
    omega
/-- A number divided by one that is 1 or more. -/
theorem div_most1 (x y n j a : Nat) (hx : x < 18446744073709551616) (fx : x % 9223372036854775808 ≤ twoW a) (ha : 1 ≤ a ∧ a ≤ 2040) (hy : FloatKind.f64.format.read y = .number false n (-(j : Int))) (hn : 2 ^ j ≤ n) (hn2 : n < 9007199254740992) (hj : j ≤ 60) :
    ∃ z, floatBits .quo .f64 x y = some z ∧ z < 18446744073709551616 ∧ z % 9223372036854775808 ≤ twoW (a + 2) ∧ (9223372036854775808 ≤ z ↔ 9223372036854775808 ≤ x) ∧ (x % 9223372036854775808 = 0 → z % 9223372036854775808 = 0) := by
  have fa : twoW a < 9218868437227405312 := by unfold twoW; omega
  have fa2 : twoW (a + 2) < 9218868437227405312 := by unfold twoW; omega
  obtain ⟨m, p, ex, vx⟩ := read_fin x hx (by omega)
  have hn0 : n ≠ 0 := by have := Nat.two_pow_pos j; omega
  obtain ⟨more, hmore⟩ : ∃ t, 54 + n.log2 - m.log2 = t := ⟨_, rfl⟩
  have key : FloatKind.f64.format.div x y = some (signN (decide (9223372036854775808 ≤ x)) (rndM (2 * (m * 2 ^ more / n) + (m * 2 ^ more % n != 0).toNat) ((p : Int) - 1074 - -(j : Int) - (more : Int) - 1))) := by
    unfold Ieee.Format.div
    rw [ex, hy]
    simp only [Ieee.Datum.quotient]
    rw [if_neg hn0, fmt_fb, Nat.shiftLeft_eq, hmore]
    show some (FloatKind.f64.format.nearest _ _ _) = _
    rw [(near_rnd _ _ _).1]
    congr 2
    cases decide (9223372036854775808 ≤ x) <;> rfl
  have hln : n.log2 ≤ 53 := by
    have := (Nat.log2_lt hn0).2 (show n < 2 ^ 53 by omega)
    omega
  obtain ⟨R, hR⟩ : ∃ t, rndM (2 * (m * 2 ^ more / n) + (m * 2 ^ more % n != 0).toNat) ((p : Int) - 1074 - -(j : Int) - (more : Int) - 1) = t := ⟨_, rfl⟩
  have hr : R ≤ twoW (a + 2) ∧ (m = 0 → R = 0) := by
    rw [← hR]
    by_cases h0 : m = 0
    · subst h0
      rw [Nat.zero_mul, Nat.zero_div, Nat.zero_mod]
      have : rndM (2 * 0 + ((0 : Nat) != 0).toNat) ((p : Int) - 1074 - -(j : Int) - (more : Int) - 1) = 0 := by unfold rndM; rw [if_pos (by decide)]
      rw [this]
      exact ⟨Nat.zero_le _, fun _ => rfl⟩
    · refine ⟨?_, fun h => absurd h h0⟩
      have q3 : nv (twoW (a + 2)) = 4 * nv (twoW a) := by
        rw [nv_two a (by omega), nv_two (a + 2) (by omega)]
        obtain ⟨c, rfl⟩ : ∃ c, a = c + 1 := ⟨a - 1, by omega⟩
        rw [show c + 1 + 2 - 1 = c + 2 by omega, Nat.add_sub_cancel, Nat.pow_succ, Nat.pow_succ]
        omega
      have hv : rndM (4 * m) ((p : Int) - 1074) ≤ twoW (a + 2) := by
        have e1 := rndM_sc (4 * m) p ((p : Int) - 1074)
        rw [Nat.mul_assoc, vx, show (p : Int) - 1074 - (p : Int) = -1074 by omega] at e1
        rw [← e1]
        have e2 := rnd_rise (m1 := 4 * nv (x % 9223372036854775808)) (m2 := nv (twoW (a + 2))) (-1074) (by decide) (by rw [q3]; exact Nat.mul_le_mul_left _ (nv_le fx))
        rw [rndq_nv _ fa2] at e2
        exact e2
      refine Nat.le_trans ?_ hv
      have hm2 : more ≤ 107 := by omega
      refine rnd_rise2 (by omega) (by omega) (by omega) ?_
      have t1 : ((p : Int) - 1074 - -(j : Int) - (more : Int) - 1 + ((2148 : Nat) : Int)).toNat = (p + 1073 - more) + j := by omega
      have t2 : ((p : Int) - 1074 + ((2148 : Nat) : Int)).toNat = (p + 1073 - more) + more + 1 := by omega
      rw [t1, t2]
      have h1 : 2 ^ m.log2 ≤ m := Nat.log2_self_le h0
      have h2 : 2 ^ j ≤ 2 ^ (n.log2 + 1) := Nat.le_of_lt (Nat.lt_of_le_of_lt hn Nat.lt_log2_self)
      have h3 : j ≤ n.log2 + 1 := (Nat.pow_le_pow_iff_right (by decide)).1 h2
      have hD : 2 ^ j ≤ m * 2 ^ more := by
        have h4 : 2 ^ j ≤ 2 ^ (m.log2 + more) := Nat.pow_le_pow_right (by decide) (by omega)
        rw [Nat.pow_add] at h4
        exact Nat.le_trans h4 (Nat.mul_le_mul_right _ h1)
      obtain ⟨D, hd⟩ : ∃ D, m * 2 ^ more = D := ⟨_, rfl⟩
      obtain ⟨t, ht⟩ : ∃ t, p + 1073 - more = t := ⟨_, rfl⟩
      have e1 : 4 * m * 2 ^ (t + more + 1) = 8 * D * 2 ^ t := by
        rw [← hd, Nat.pow_succ, Nat.pow_add]
        rw [show 4 * m * (2 ^ t * 2 ^ more * 2) = 8 * (m * 2 ^ more) * 2 ^ t by
          rw [Nat.mul_comm (2 ^ t), Nat.mul_assoc 4 m, ← Nat.mul_assoc m, ← Nat.mul_assoc m, Nat.mul_right_comm (m * 2 ^ more) (2 ^ t) 2, ← Nat.mul_assoc 4, ← Nat.mul_assoc 4, Nat.mul_right_comm 4 (m * 2 ^ more) 2]]
      have hs : (D % n != 0).toNat ≤ 1 := by cases (D % n != 0) <;> decide
      have hq : D / n * 2 ^ j ≤ D := Nat.le_trans (Nat.mul_le_mul_left _ hn) (Nat.div_mul_le_self D n)
      rw [hd] at hD ⊢
      rw [ht, e1, Nat.pow_add, Nat.mul_comm (2 ^ t), ← Nat.mul_assoc]
      refine Nat.mul_le_mul_right _ ?_
      rw [Nat.add_mul, Nat.mul_assoc]
      have e3 : (D % n != 0).toNat * 2 ^ j ≤ 1 * 2 ^ j := Nat.mul_le_mul_right _ hs
      omega
  rw [hR] at key
  refine ⟨_, key, ?_⟩
  have hmz : x % 9223372036854775808 = 0 → R = 0 := fun h => hr.2 (by
    rw [h, show nv 0 = 0 by decide] at vx
    rcases Nat.mul_eq_zero.1 vx with h | h
    · exact h
    · exact absurd h (Nat.ne_of_gt (Nat.two_pow_pos _)))
  unfold signN
  by_cases sx : 9223372036854775808 ≤ x
  · simp [sx]; exact ⟨by omega, by omega, fun h => by have := hmz h; omega⟩
  · simp [sx]; exact ⟨by omega, by omega, by omega, fun h => by have := hmz h; omega⟩
theorem up_quo1 {x a : Nat} (y n j : Nat) (hx : Up x a) (ha : 1 ≤ a ∧ a ≤ 2040) (hy : FloatKind.f64.format.read y = .number false n (-(j : Int))) (hn : 2 ^ j ≤ n) (hn2 : n < 9007199254740992) (hj : j ≤ 60) : floatBits .quo .f64 x y = some (quoW x y) ∧ Up (quoW x y) (a + 2) := by
  obtain ⟨z, e1, e2, e3, e4, e6⟩ := div_most1 x y n j a hx.1 hx.2.1 ha hy hn hn2 hj
  have e5 : quoW x y = z := by unfold quoW; rw [e1]; rfl
  rw [e5]
  refine ⟨e1, e2, e3, ?_⟩
  rcases hx.2.2 with h | h
  · left; omega
  · right
    subst h
    have := e4.2 (by decide)
    have := e6 (by decide)
    omega
theorem up_sqr {x a : Nat} (hx : Up x a) (ha : a ≤ 2046) : FloatKind.f64.format.sqrt x = some (sqrW x) ∧ Up (sqrW x) 1540 := by
  obtain ⟨z, e1, e2, e3, e4⟩ := sqrt_most x (hx.fin ha).1 (hx.fin ha).2 hx.2.2
  have e5 : sqrW x = z := by unfold sqrW; rw [e1]; rfl
  rw [e5]
  refine ⟨e1, e2, e3, ?_⟩
  rcases hx.2.2 with h | h
  · exact Or.inl (e4 h)
  · subst h
    right
    have : FloatKind.f64.format.sqrt 9223372036854775808 = some 9223372036854775808 := by decide +kernel
    rw [this] at e1
    exact (Option.some.inj e1).symm
def va (n d : Nat) : Nat := mulW n d
def vad (n d : Nat) : Nat := mulW (va n d) d
def va2 (n d : Nat) : Nat := mulW (vad n d) d
def va3 (n d : Nat) : Nat := mulW (va2 n d) d
def va4 (n d : Nat) : Nat := mulW (va3 n d) d
def qb (n d : Nat) : Nat := quoW (vad n d) 4611686018427387904
def qc (n d : Nat) : Nat := quoW (va2 n d) 4613937818241073152
def qe (n d : Nat) : Nat := quoW (va2 n d) 4618441417868443648
def qf (n d : Nat) : Nat := quoW (va3 n d) 4620693217682128896
def qg (n d : Nat) : Nat := quoW (va4 n d) 4626322717216342016
def vdd (d : Nat) : Nat := mulW d d
def qd (d : Nat) : Nat := quoW (vdd d) 4611686018427387904
def vf (f d : Nat) : Nat := mulW f d
def vs (n d : Nat) : Nat := sqrW (va n d)
def vsd (n d : Nat) : Nat := mulW (vs n d) d
def vsdd (n d : Nat) : Nat := mulW (vsd n d) d
def vr3 (n d : Nat) : Nat := mulW (vs n d) 4610479282544200874
def g1 (n d : Nat) : Nat := quoW (vsd n d) 4610479282544200874
def g2 (n d : Nat) : Nat := quoW (vr3 n d) 4611686018427387904
def g3 (n d : Nat) : Nat := quoW (vs n d) 4611686018427387904
def h1 (n d : Nat) : Nat := quoW (vsdd n d) 4616721195882509480
def vsdr (n d : Nat) : Nat := mulW (vsd n d) 4616721195882509480
def h2 (n d : Nat) : Nat := quoW (vsdr n d) 4620693217682128896
def h3 (n d : Nat) : Nat := quoW (vsd n d) 4619486481798941866
def vr20 (n d : Nat) : Nat := mulW (vs n d) 4616721195882509480
def h4 (n d : Nat) : Nat := quoW (vr20 n d) 4618441417868443648
def vr48 (n d : Nat) : Nat := mulW (vs n d) 4619486481798941866
def h5 (n d : Nat) : Nat := quoW (vr48 n d) 4622945017495814144
def h6 (n d : Nat) : Nat := quoW (vs n d) 4613937818241073152
theorem rdc_2 : FloatKind.f64.format.read 4611686018427387904 = .number false 4503599627370496 (-((51 : Nat) : Int)) := by decide +kernel
theorem rdc_3 : FloatKind.f64.format.read 4613937818241073152 = .number false 6755399441055744 (-((51 : Nat) : Int)) := by decide +kernel
theorem rdc_6 : FloatKind.f64.format.read 4618441417868443648 = .number false 6755399441055744 (-((50 : Nat) : Int)) := by decide +kernel
theorem rdc_8 : FloatKind.f64.format.read 4620693217682128896 = .number false 4503599627370496 (-((49 : Nat) : Int)) := by decide +kernel
theorem rdc_12 : FloatKind.f64.format.read 4622945017495814144 = .number false 6755399441055744 (-((49 : Nat) : Int)) := by decide +kernel
theorem rdc_20 : FloatKind.f64.format.read 4626322717216342016 = .number false 5629499534213120 (-((48 : Nat) : Int)) := by decide +kernel
theorem rdc_r3 : FloatKind.f64.format.read 4610479282544200874 = .number false 7800463371553962 (-((52 : Nat) : Int)) := by decide +kernel
theorem rdc_r20 : FloatKind.f64.format.read 4616721195882509480 = .number false 5035177455121576 (-((50 : Nat) : Int)) := by decide +kernel
theorem rdc_r48 : FloatKind.f64.format.read 4619486481798941866 = .number false 7800463371553962 (-((50 : Nat) : Int)) := by decide +kernel
theorem is_va {n d : Nat} (hn : Up n 1123) (hd : Up d 1073) (d0 : d < 9223372036854775808) : floatBits .mul .f64 n d = some (va n d) ∧ Up (va n d) 1173 := up_mul (a := 1123) (b := 1073) hn hd d0 (by decide) (by decide) (by decide)
theorem is_vad {n d : Nat} (hn : Up n 1123) (hd : Up d 1073) (d0 : d < 9223372036854775808) : floatBits .mul .f64 (va n d) d = some (vad n d) ∧ Up (vad n d) 1223 := up_mul (a := 1173) (b := 1073) (is_va hn hd d0).2 hd d0 (by decide) (by decide) (by decide)
theorem is_va2 {n d : Nat} (hn : Up n 1123) (hd : Up d 1073) (d0 : d < 9223372036854775808) : floatBits .mul .f64 (vad n d) d = some (va2 n d) ∧ Up (va2 n d) 1273 := up_mul (a := 1223) (b := 1073) (is_vad hn hd d0).2 hd d0 (by decide) (by decide) (by decide)
theorem is_va3 {n d : Nat} (hn : Up n 1123) (hd : Up d 1073) (d0 : d < 9223372036854775808) : floatBits .mul .f64 (va2 n d) d = some (va3 n d) ∧ Up (va3 n d) 1323 := up_mul (a := 1273) (b := 1073) (is_va2 hn hd d0).2 hd d0 (by decide) (by decide) (by decide)
theorem is_va4 {n d : Nat} (hn : Up n 1123) (hd : Up d 1073) (d0 : d < 9223372036854775808) : floatBits .mul .f64 (va3 n d) d = some (va4 n d) ∧ Up (va4 n d) 1373 := up_mul (a := 1323) (b := 1073) (is_va3 hn hd d0).2 hd d0 (by decide) (by decide) (by decide)
theorem is_qb {n d : Nat} (hn : Up n 1123) (hd : Up d 1073) (d0 : d < 9223372036854775808) : floatBits .quo .f64 (vad n d) 4611686018427387904 = some (qb n d) ∧ Up (qb n d) 1223 := up_quo 4611686018427387904 4503599627370496 51 (is_vad hn hd d0).2 (by decide) rdc_2 (by decide) (by decide) (by decide)
theorem is_qc {n d : Nat} (hn : Up n 1123) (hd : Up d 1073) (d0 : d < 9223372036854775808) : floatBits .quo .f64 (va2 n d) 4613937818241073152 = some (qc n d) ∧ Up (qc n d) 1273 := up_quo 4613937818241073152 6755399441055744 51 (is_va2 hn hd d0).2 (by decide) rdc_3 (by decide) (by decide) (by decide)
theorem is_qe {n d : Nat} (hn : Up n 1123) (hd : Up d 1073) (d0 : d < 9223372036854775808) : floatBits .quo .f64 (va2 n d) 4618441417868443648 = some (qe n d) ∧ Up (qe n d) 1273 := up_quo 4618441417868443648 6755399441055744 50 (is_va2 hn hd d0).2 (by decide) rdc_6 (by decide) (by decide) (by decide)
theorem is_qf {n d : Nat} (hn : Up n 1123) (hd : Up d 1073) (d0 : d < 9223372036854775808) : floatBits .quo .f64 (va3 n d) 4620693217682128896 = some (qf n d) ∧ Up (qf n d) 1323 := up_quo 4620693217682128896 4503599627370496 49 (is_va3 hn hd d0).2 (by decide) rdc_8 (by decide) (by decide) (by decide)
theorem is_qg {n d : Nat} (hn : Up n 1123) (hd : Up d 1073) (d0 : d < 9223372036854775808) : floatBits .quo .f64 (va4 n d) 4626322717216342016 = some (qg n d) ∧ Up (qg n d) 1373 := up_quo 4626322717216342016 5629499534213120 48 (is_va4 hn hd d0).2 (by decide) rdc_20 (by decide) (by decide) (by decide)
theorem is_vdd {d : Nat} (hd : Up d 1073) (d0 : d < 9223372036854775808) : floatBits .mul .f64 d d = some (vdd d) ∧ Up (vdd d) 1123 := up_mul (a := 1073) (b := 1073) hd hd d0 (by decide) (by decide) (by decide)
theorem is_qd {d : Nat} (hd : Up d 1073) (d0 : d < 9223372036854775808) : floatBits .quo .f64 (vdd d) 4611686018427387904 = some (qd d) ∧ Up (qd d) 1123 := up_quo 4611686018427387904 4503599627370496 51 (is_vdd hd d0).2 (by decide) rdc_2 (by decide) (by decide) (by decide)
theorem is_vf {f d : Nat} (hf : Up f 1123) (hd : Up d 1073) (d0 : d < 9223372036854775808) : floatBits .mul .f64 f d = some (vf f d) ∧ Up (vf f d) 1173 := up_mul (a := 1123) (b := 1073) hf hd d0 (by decide) (by decide) (by decide)
theorem is_vs {n d : Nat} (hn : Up n 1123) (hd : Up d 1073) (d0 : d < 9223372036854775808) : FloatKind.f64.format.sqrt (va n d) = some (vs n d) ∧ Up (vs n d) 1540 := up_sqr (is_va hn hd d0).2 (by decide)
theorem is_vsd {n d : Nat} (hn : Up n 1123) (hd : Up d 1073) (d0 : d < 9223372036854775808) : floatBits .mul .f64 (vs n d) d = some (vsd n d) ∧ Up (vsd n d) 1590 := up_mul (a := 1540) (b := 1073) (is_vs hn hd d0).2 hd d0 (by decide) (by decide) (by decide)
theorem is_vsdd {n d : Nat} (hn : Up n 1123) (hd : Up d 1073) (d0 : d < 9223372036854775808) : floatBits .mul .f64 (vsd n d) d = some (vsdd n d) ∧ Up (vsdd n d) 1640 := up_mul (a := 1590) (b := 1073) (is_vsd hn hd d0).2 hd d0 (by decide) (by decide) (by decide)
theorem is_vr3 {n d : Nat} (hn : Up n 1123) (hd : Up d 1073) (d0 : d < 9223372036854775808) : floatBits .mul .f64 (vs n d) 4610479282544200874 = some (vr3 n d) ∧ Up (vr3 n d) 1541 := up_mul (a := 1540) (b := 1024) (is_vs hn hd d0).2 (show Up 4610479282544200874 1024 from ⟨by decide, by decide, by decide⟩) (by decide) (by decide) (by decide) (by decide)
theorem is_g1 {n d : Nat} (hn : Up n 1123) (hd : Up d 1073) (d0 : d < 9223372036854775808) : floatBits .quo .f64 (vsd n d) 4610479282544200874 = some (g1 n d) ∧ Up (g1 n d) 1592 := up_quo1 4610479282544200874 7800463371553962 52 (is_vsd hn hd d0).2 (by decide) rdc_r3 (by decide) (by decide) (by decide)
theorem is_g2 {n d : Nat} (hn : Up n 1123) (hd : Up d 1073) (d0 : d < 9223372036854775808) : floatBits .quo .f64 (vr3 n d) 4611686018427387904 = some (g2 n d) ∧ Up (g2 n d) 1541 := up_quo 4611686018427387904 4503599627370496 51 (is_vr3 hn hd d0).2 (by decide) rdc_2 (by decide) (by decide) (by decide)
theorem is_g3 {n d : Nat} (hn : Up n 1123) (hd : Up d 1073) (d0 : d < 9223372036854775808) : floatBits .quo .f64 (vs n d) 4611686018427387904 = some (g3 n d) ∧ Up (g3 n d) 1540 := up_quo 4611686018427387904 4503599627370496 51 (is_vs hn hd d0).2 (by decide) rdc_2 (by decide) (by decide) (by decide)
theorem is_h1 {n d : Nat} (hn : Up n 1123) (hd : Up d 1073) (d0 : d < 9223372036854775808) : floatBits .quo .f64 (vsdd n d) 4616721195882509480 = some (h1 n d) ∧ Up (h1 n d) 1640 := up_quo 4616721195882509480 5035177455121576 50 (is_vsdd hn hd d0).2 (by decide) rdc_r20 (by decide) (by decide) (by decide)
theorem is_vsdr {n d : Nat} (hn : Up n 1123) (hd : Up d 1073) (d0 : d < 9223372036854775808) : floatBits .mul .f64 (vsd n d) 4616721195882509480 = some (vsdr n d) ∧ Up (vsdr n d) 1593 := up_mul (a := 1590) (b := 1026) (is_vsd hn hd d0).2 (show Up 4616721195882509480 1026 from ⟨by decide, by decide, by decide⟩) (by decide) (by decide) (by decide) (by decide)
theorem is_h2 {n d : Nat} (hn : Up n 1123) (hd : Up d 1073) (d0 : d < 9223372036854775808) : floatBits .quo .f64 (vsdr n d) 4620693217682128896 = some (h2 n d) ∧ Up (h2 n d) 1593 := up_quo 4620693217682128896 4503599627370496 49 (is_vsdr hn hd d0).2 (by decide) rdc_8 (by decide) (by decide) (by decide)
theorem is_h3 {n d : Nat} (hn : Up n 1123) (hd : Up d 1073) (d0 : d < 9223372036854775808) : floatBits .quo .f64 (vsd n d) 4619486481798941866 = some (h3 n d) ∧ Up (h3 n d) 1590 := up_quo 4619486481798941866 7800463371553962 50 (is_vsd hn hd d0).2 (by decide) rdc_r48 (by decide) (by decide) (by decide)
theorem is_vr20 {n d : Nat} (hn : Up n 1123) (hd : Up d 1073) (d0 : d < 9223372036854775808) : floatBits .mul .f64 (vs n d) 4616721195882509480 = some (vr20 n d) ∧ Up (vr20 n d) 1543 := up_mul (a := 1540) (b := 1026) (is_vs hn hd d0).2 (show Up 4616721195882509480 1026 from ⟨by decide, by decide, by decide⟩) (by decide) (by decide) (by decide) (by decide)
theorem is_h4 {n d : Nat} (hn : Up n 1123) (hd : Up d 1073) (d0 : d < 9223372036854775808) : floatBits .quo .f64 (vr20 n d) 4618441417868443648 = some (h4 n d) ∧ Up (h4 n d) 1543 := up_quo 4618441417868443648 6755399441055744 50 (is_vr20 hn hd d0).2 (by decide) rdc_6 (by decide) (by decide) (by decide)
theorem is_vr48 {n d : Nat} (hn : Up n 1123) (hd : Up d 1073) (d0 : d < 9223372036854775808) : floatBits .mul .f64 (vs n d) 4619486481798941866 = some (vr48 n d) ∧ Up (vr48 n d) 1543 := up_mul (a := 1540) (b := 1026) (is_vs hn hd d0).2 (show Up 4619486481798941866 1026 from ⟨by decide, by decide, by decide⟩) (by decide) (by decide) (by decide) (by decide)
theorem is_h5 {n d : Nat} (hn : Up n 1123) (hd : Up d 1073) (d0 : d < 9223372036854775808) : floatBits .quo .f64 (vr48 n d) 4622945017495814144 = some (h5 n d) ∧ Up (h5 n d) 1543 := up_quo 4622945017495814144 6755399441055744 49 (is_vr48 hn hd d0).2 (by decide) rdc_12 (by decide) (by decide) (by decide)
theorem is_h6 {n d : Nat} (hn : Up n 1123) (hd : Up d 1073) (d0 : d < 9223372036854775808) : floatBits .quo .f64 (vs n d) 4613937818241073152 = some (h6 n d) ∧ Up (h6 n d) 1540 := up_quo 4613937818241073152 6755399441055744 51 (is_vs hn hd d0).2 (by decide) rdc_3 (by decide) (by decide) (by decide)
def vo (f d : Nat) : Nat := addW 4607182418800017408 (vf f d)
def vfo (f d : Nat) : Nat := quoW 4607182418800017408 (vo f d)
theorem is_vo {f d : Nat} (hf : Up f 1123) (hd : Up d 1073) (d0 : d < 9223372036854775808) : floatBits .add .f64 4607182418800017408 (vf f d) = some (vo f d) ∧ 4607182418800017408 ≤ vo f d ∧ vo f d ≤ twoW 1174 := by
  have h := (is_vf hf hd d0).2
  obtain ⟨y, e1, e2, e3⟩ := one_plus (vf f d) 1173 h.1 (by decide) h.2.1 h.2.2
  have e5 : vo f d = y := by unfold vo addW; rw [e1]; rfl
  rw [e5]
  exact ⟨e1, e2, e3⟩
theorem is_vfo {f d : Nat} (hf : Up f 1123) (hd : Up d 1073) (d0 : d < 9223372036854775808) : floatBits .quo .f64 4607182418800017408 (vo f d) = some (vfo f d) ∧ Up (vfo f d) 1024 := by
  obtain ⟨_, h1, h2⟩ := is_vo hf hd d0
  have hw : twoW 1174 < 9218868437227405312 := by decide
  have hw2 : twoW 1024 < 9218868437227405312 := by decide
  obtain ⟨z, e1, e2⟩ := one_over (vo f d) h1 (by omega)
  have e5 : vfo f d = z := by unfold vfo quoW; rw [e1]; rfl
  rw [e5]
  exact ⟨e1, by omega, by rw [Nat.mod_eq_of_lt (by omega)]; exact e2, Or.inl (by omega)⟩
end Go.Proofs.Ytggiklghcnojiaa
