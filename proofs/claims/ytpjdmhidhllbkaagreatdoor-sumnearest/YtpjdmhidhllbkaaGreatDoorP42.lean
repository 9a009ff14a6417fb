
/- Dekker's product and a product and sum rounded once, by the machine. No program is spoken of. -/
import Derived.Test.YtpjdmhidhllbkaaGreatDoorP18
import Derived.Test.YtpjdmhidhllbkaaGreatDoorP41
import Derived.Test.YtpjdmhidhllbkaaGreatDoorP33
import Derived.Test.YtpjdmhidhllbkaaGreatDoorP24
namespace Go.Proofs.YtpjdmhidhllbkaaGreatDoor
open Go Go.RowKit Go.IntWalk

theorem odd_part (a : Int) (h : a ≠ 0) : ∃ v : Int, ∃ j : Nat, v % 2 = 1 ∧ a = v * 2 ^ j := by
  obtain ⟨n, hn⟩ : ∃ n, a.natAbs = n := ⟨_, rfl⟩
  induction n using Nat.strongRecOn generalizing a with
  | ind n ih =>
    by_cases c : a % 2 = 1
    · exact ⟨a, 0, c, by rw [Int.pow_zero, Int.mul_one]⟩
    · obtain ⟨v, j, h1, h2⟩ := ih (a / 2).natAbs (by omega) (a / 2) (by omega) rfl
      refine ⟨v, j + 1, h1, ?_⟩
      rw [Int.pow_succ, ← Int.mul_assoc, ← h2]
      omega
theorem odd_mul {u v : Int} (hu : u % 2 = 1) (hv : v % 2 = 1) : u * v % 2 = 1 := by rw [Int.mul_emod, hu, hv]; rfl
/-- Where the product is a whole number of steps, so are those of the halves. -/
theorem halves_whole (a b H I : Int) (k : Nat) (ha : a ≠ 0) (hb : b ≠ 0) (hA : Halves a H) (hB : Halves b I) (h : ((2 ^ k : Nat) : Int) ∣ a * b) :
    ((2 ^ k : Nat) : Int) ∣ H * I ∧ ((2 ^ k : Nat) : Int) ∣ (a - H) * I ∧ ((2 ^ k : Nat) : Int) ∣ H * (b - I) ∧ ((2 ^ k : Nat) : Int) ∣ (a - H) * (b - I) := by
  obtain ⟨u, i, hu, ea⟩ := odd_part a ha
  obtain ⟨v, j, hv, eb⟩ := odd_part b hb
  have e : a * b = (u * v) * 2 ^ (i + j) := by rw [ea, eb, Int.pow_add, Int.mul_assoc u, Int.mul_left_comm (2 ^ i), ← Int.mul_assoc]
  have hk := odd_under (odd_mul hu hv) e h
  have a1 : ((2 ^ i : Nat) : Int) ∣ a := ⟨u, by rw [ea, Int.mul_comm, Int.natCast_pow]; rfl⟩
  have b1 : ((2 ^ j : Nat) : Int) ∣ b := ⟨v, by rw [eb, Int.mul_comm, Int.natCast_pow]; rfl⟩
  have a2 := hA.dv i a1
  have b2 := hB.dv j b1
  have a3 := Int.dvd_sub a1 a2
  have b3 := Int.dvd_sub b1 b2
  exact ⟨Int.dvd_trans (pow_dvd hk) (dvd_pp a2 b2), Int.dvd_trans (pow_dvd hk) (dvd_pp a3 b2), Int.dvd_trans (pow_dvd hk) (dvd_pp a2 b3), Int.dvd_trans (pow_dvd hk) (dvd_pp a3 b3)⟩
theorem sign_sc {z P : Int} {T : Nat} (hT : 0 < T) (e : z = P * (T : Int)) : (z ≠ 0 ↔ P ≠ 0) ∧ (z < 0 ↔ P < 0) := by
  have hT' : (0 : Int) < T := by omega
  subst e
  refine ⟨⟨?_, ?_⟩, ⟨?_, ?_⟩⟩
  · intro h c; exact h (by rw [c, Int.zero_mul])
  · intro h c
    rcases Int.mul_eq_zero.1 c with c | c <;> omega
  · intro h
    by_cases c : P < 0
    · exact c
    · have := Int.mul_nonneg (by omega : 0 ≤ P) (Int.le_of_lt hT'); omega
  · intro h; exact Int.mul_neg_of_neg_of_pos h hT'
/-- What is rounded at the finer grid. -/
theorem fin_sc (s : Bool) (z P : Int) (e : z = P * ((2 ^ kH : Nat) : Int)) (hs : z ≠ 0 → s = decide (z < 0)) (h : P.natAbs ≤ 9007199254740992 * 2 ^ kG) : signN s (rndM z.natAbs (-2148)) = signN s (rnR P.natAbs) ∧ Fin64 (signN s (rnR P.natAbs)) (rz P) := by
  obtain ⟨T, hT⟩ : ∃ T, (2 : Nat) ^ kH = T := ⟨_, rfl⟩
  have hT0 : 0 < T := by rw [← hT]; exact Nat.two_pow_pos _
  have hr := rndM_sc P.natAbs kH (-1074)
  rw [hT] at e hr
  obtain ⟨g1, g2⟩ := sign_sc hT0 e
  have hk := kG_is
  rw [← (pow_more kG).2] at h
  have hn : z.natAbs = P.natAbs * T := by rw [e, Int.natAbs_mul]; rfl
  obtain ⟨f1, f2⟩ := fin_rz s P (kG + 53) (by omega) h (fun hne => by
    rw [hs (g1.2 hne)]
    exact decide_eq_decide.2 g2)
  refine ⟨?_, f1⟩
  rw [hn, show (-2148 : Int) = -1074 - ((kH : Nat) : Int) by decide, hr]
  rfl
theorem fin_mul (x y : Nat) (a b P : Int) (hx : Fin64 x a) (hy : Fin64 y b) (e : a * b = P * ((2 ^ kH : Nat) : Int)) (h : P.natAbs ≤ 9007199254740992 * 2 ^ kG) : ∃ r, FloatKind.f64.format.mul x y = some r ∧ Fin64 r (rz P) := by
  obtain ⟨x1, x2, rfl⟩ := hx
  obtain ⟨y1, y2, rfl⟩ := hy
  obtain ⟨s, e1, hs⟩ := mul_rnd x y x1 y1 x2 y2
  obtain ⟨f1, f2⟩ := fin_sc s _ P e hs h
  exact ⟨_, e1.trans (congrArg some f1), f2⟩
/-- The sum of two data with one base: what is rounded, and its value. -/
theorem sum_valK (K : Int) (s t : Bool) (m n p q : Nat) (A B : Int) (hA : A = if s then -((m * 2 ^ p : Nat) : Int) else ((m * 2 ^ p : Nat) : Int)) (hB : B = if t then -((n * 2 ^ q : Nat) : Int) else ((n * 2 ^ q : Nat) : Int)) :
    ∃ mag b : Nat, (Ieee.Datum.number s m ((p : Int) - K)).sum (.number t n ((q : Int) - K)) = some (.number (if A + B = 0 then s && t else decide (A + B < 0)) mag ((b : Int) - K)) ∧ mag * 2 ^ b = (A + B).natAbs := by
  have hb : min ((p : Int) - K) ((q : Int) - K) = ((min p q : Nat) : Int) - K := by omega
  have t1 : ((p : Int) - K - (((min p q : Nat) : Int) - K)).toNat = p - min p q := by omega
  have t2 : ((q : Int) - K - (((min p q : Nat) : Int) - K)).toNat = q - min p q := by omega
  have e1 := signed_scale s m (min p q) p (Nat.min_le_left _ _)
  have e2 := signed_scale t n (min p q) q (Nat.min_le_right _ _)
  have hsum : (Ieee.signed s m (p - min p q) + Ieee.signed t n (q - min p q)) * ((2 ^ min p q : Nat) : Int) = A + B := by
    rw [Int.add_mul, e1, e2, hA, hB]
  have hp : 0 < 2 ^ min p q := Nat.two_pow_pos (min p q)
  obtain ⟨T, hT⟩ : ∃ T, T = Ieee.signed s m (p - min p q) + Ieee.signed t n (q - min p q) := ⟨_, rfl⟩
  rw [← hT] at hsum
  obtain ⟨z1, z2⟩ := sign_sc hp hsum.symm
  refine ⟨T.natAbs, min p q, ?_, ?_⟩
  · show some (Ieee.Datum.number _ _ _) = _
    simp only [hb, t1, t2, ← hT]
    by_cases c : A + B = 0
    · have : T = 0 := by
        apply Classical.byContradiction
        intro h
        exact z1.2 h c
      rw [if_pos this, if_pos c]
    · rw [if_neg (z1.1 c), if_neg c, decide_eq_decide.2 z2]
  · rw [← hsum, Int.natAbs_mul]
    rfl
theorem xor_form (x y m n p q : Nat) (fa : sv x = if (decide (9223372036854775808 ≤ x)) then -((m * 2 ^ p : Nat) : Int) else ((m * 2 ^ p : Nat) : Int)) (fb : sv y = if (decide (9223372036854775808 ≤ y)) then -((n * 2 ^ q : Nat) : Int) else ((n * 2 ^ q : Nat) : Int)) :
    sv x * sv y = if (decide (9223372036854775808 ≤ x) ^^ decide (9223372036854775808 ≤ y)) then -((m * n * 2 ^ (p + q) : Nat) : Int) else ((m * n * 2 ^ (p + q) : Nat) : Int) := by
  have e : ((m * n * 2 ^ (p + q) : Nat) : Int) = ((m * 2 ^ p : Nat) : Int) * ((n * 2 ^ q : Nat) : Int) := by
    rw [← Int.natCast_mul]
    congr 1
    rw [Nat.pow_add, Nat.mul_assoc, Nat.mul_assoc, Nat.mul_left_comm n]
  rw [e, fa, fb]
  obtain ⟨A, hA⟩ : ∃ A : Int, ((m * 2 ^ p : Nat) : Int) = A := ⟨_, rfl⟩
  obtain ⟨B, hB⟩ : ∃ B : Int, ((n * 2 ^ q : Nat) : Int) = B := ⟨_, rfl⟩
  rw [hA, hB]
  by_cases c : 9223372036854775808 ≤ x <;> by_cases d : 9223372036854775808 ≤ y <;> simp [c, d, Int.neg_mul, Int.mul_neg]
/-- A product and a sum of finite numbers, rounded once. -/
theorem fma_rnd (x y z : Nat) (hx : x < 18446744073709551616) (hy : y < 18446744073709551616) (hz : z < 18446744073709551616) (fx : x % 9223372036854775808 < 9218868437227405312) (fy : y % 9223372036854775808 < 9218868437227405312) (fz : z % 9223372036854775808 < 9218868437227405312) :
    ∃ s, FloatKind.f64.format.fma x y z = some (signN s (rndM (sv x * sv y + sv z * ((2 ^ kH : Nat) : Int)).natAbs (-2148))) ∧ (sv x * sv y + sv z * ((2 ^ kH : Nat) : Int) ≠ 0 → s = decide (sv x * sv y + sv z * ((2 ^ kH : Nat) : Int) < 0)) := by
  obtain ⟨m, p, ex, vx⟩ := read_fin x hx fx
  obtain ⟨n, q, ey, vy⟩ := read_fin y hy fy
  obtain ⟨o, r, ez, vz⟩ := read_fin z hz fz
  have fa := xor_form x y m n p q (sv_form x m p vx) (sv_form y n q vy)
  have fc : sv z * ((2 ^ kH : Nat) : Int) = if (decide (9223372036854775808 ≤ z)) then -((o * 2 ^ (r + kH) : Nat) : Int) else ((o * 2 ^ (r + kH) : Nat) : Int) := by
    rw [sv_form z o r vz, Nat.pow_add, ← Nat.mul_assoc, Int.natCast_mul (o * 2 ^ r)]
    by_cases c : 9223372036854775808 ≤ z <;> simp only [c, decide_true, decide_false, if_true, if_false, Int.neg_mul, Bool.false_eq_true]
  obtain ⟨mag, b, e, hv⟩ := sum_valK 2148 _ _ (m * n) o (p + q) (r + kH) _ _ fa fc
  have k1 : (p : Int) - 1074 + ((q : Int) - 1074) = ((p + q : Nat) : Int) - 2148 := by omega
  have k2 : (r : Int) - 1074 = ((r + kH : Nat) : Int) - 2148 := by have := kH_is; omega
  obtain ⟨V, hV⟩ : ∃ V : Int, sv x * sv y + sv z * ((2 ^ kH : Nat) : Int) = V := ⟨_, rfl⟩
  rw [hV] at e hv ⊢
  unfold Ieee.Format.fma
  rw [ex, ey, ez]
  refine ⟨if V = 0 then (decide (9223372036854775808 ≤ x) ^^ decide (9223372036854775808 ≤ y)) && decide (9223372036854775808 ≤ z) else decide (V < 0), ?_, fun h => by rw [if_neg h]⟩
  show (((Ieee.Datum.number (decide (9223372036854775808 ≤ x) ^^ decide (9223372036854775808 ≤ y)) (m * n) ((p : Int) - 1074 + ((q : Int) - 1074))).sum (.number _ o ((r : Int) - 1074))).map _) = _
  rw [k1, k2, e]
  show some (FloatKind.f64.format.nearest _ mag ((b : Int) - 2148)) = _
  have := rndM_sc mag b ((b : Int) - 2148)
  rw [hv, show (b : Int) - 2148 - (b : Int) = -2148 by omega] at this
  rw [(near_rnd _ mag _).1, this]
theorem fin_fma (x y z : Nat) (a b c P : Int) (hx : Fin64 x a) (hy : Fin64 y b) (hz : Fin64 z c) (e : a * b = P * ((2 ^ kH : Nat) : Int)) (h : (P + c).natAbs ≤ 9007199254740992 * 2 ^ kG) : ∃ r, FloatKind.f64.format.fma x y z = some r ∧ Fin64 r (rz (P + c)) := by
  obtain ⟨x1, x2, rfl⟩ := hx
  obtain ⟨y1, y2, rfl⟩ := hy
  obtain ⟨z1, z2, rfl⟩ := hz
  obtain ⟨s, e1, hs⟩ := fma_rnd x y z x1 y1 z1 x2 y2 z2
  obtain ⟨f1, f2⟩ := fin_sc s _ (P + sv z) (by rw [e, Int.add_mul]) hs h
  exact ⟨_, e1.trans (congrArg some f1), f2⟩
theorem sc_mul {u v V T J M : Int} (h : u * v = V * T) : (u * J) * (v * M) = V * (T * (J * M)) := by
  rw [← Int.mul_assoc V, ← h, Int.mul_assoc u, Int.mul_left_comm J, ← Int.mul_assoc u]
/-- Dekker's product, by the machine. -/
theorem prod_core (x y h l i k : Nat) (a b H I P : Int) (hx : Fin64 x a) (hy : Fin64 y b) (vh : Fin64 h H) (vl : Fin64 l (a - H)) (vi : Fin64 i I) (vk : Fin64 k (b - I)) (hA : Halves a H) (hB : Halves b I) (e : a * b = P * ((2 ^ kH : Nat) : Int)) (hP : P.natAbs ≤ 2251799813685248 * 2 ^ kG) :
    ∃ p q1 q2 q3 q4 q5 q6 q7 r, FloatKind.f64.format.mul x y = some p ∧ FloatKind.f64.format.mul l k = some q1 ∧ FloatKind.f64.format.mul h i = some q2 ∧ FloatKind.f64.format.sub p q2 = some q3 ∧ FloatKind.f64.format.mul l i = some q4 ∧ FloatKind.f64.format.sub q3 q4 = some q5 ∧ FloatKind.f64.format.mul h k = some q6 ∧ FloatKind.f64.format.sub q5 q6 = some q7 ∧ FloatKind.f64.format.sub q1 q7 = some r
      ∧ Fin64 p (rz P) ∧ Fin64 r (P - rz P) ∧ Fz (P - rz P) ∧ (P - rz P).natAbs ≤ 9007199254740992 * 2 ^ kG := by
  obtain ⟨hi, li, hk, lk, e1, e2, e3, e4, ⟨f1, f2, f3, f4⟩, ⟨g1, g2, g3, g4⟩, eE, ⟨b1, b2, b3, b4⟩, ⟨c1, c2, c3, c4⟩⟩ : ∃ hi li hk lk : Int, H * I = hi * ((2 ^ kH : Nat) : Int) ∧ (a - H) * I = li * ((2 ^ kH : Nat) : Int) ∧ H * (b - I) = hk * ((2 ^ kH : Nat) : Int) ∧ (a - H) * (b - I) = lk * ((2 ^ kH : Nat) : Int)
      ∧ (Fz hi ∧ Fz li ∧ Fz hk ∧ Fz lk) ∧ (Fz (rz P - hi) ∧ Fz (rz P - hi - li) ∧ Fz (rz P - hi - li - hk) ∧ Fz (P - rz P)) ∧ lk - (rz P - hi - li - hk) = P - rz P
      ∧ (hi.natAbs ≤ 4 * P.natAbs ∧ li.natAbs ≤ 4 * P.natAbs ∧ hk.natAbs ≤ 4 * P.natAbs ∧ lk.natAbs ≤ 4 * P.natAbs) ∧ ((rz P - hi).natAbs ≤ 4 * P.natAbs ∧ (rz P - hi - li).natAbs ≤ 4 * P.natAbs ∧ (rz P - hi - li - hk).natAbs ≤ 4 * P.natAbs ∧ (P - rz P).natAbs ≤ 4 * P.natAbs) := by
    by_cases c : a = 0 ∨ b = 0
    · have hT0 : 0 < 2 ^ kH := Nat.two_pow_pos _
      have hP0 : P = 0 := by
        apply Classical.byContradiction
        intro h
        refine (sign_sc hT0 e).1.2 h ?_
        rcases c with c | c <;> rw [c] <;> simp
      have hz : ∀ {u v : Int}, u = 0 → Halves u v → v = 0 := fun {u v} hu hv => gap_zero (hv.dv v.natAbs (by rw [hu]; exact Int.dvd_zero _)) Nat.lt_two_pow_self
      have hr : rz P = 0 := by rw [hP0]; exact rz_exact Fz_zero
      have z0 : Fz 0 := Fz_zero
      have hh : H * I = 0 ∧ (a - H) * I = 0 ∧ H * (b - I) = 0 ∧ (a - H) * (b - I) = 0 := by
        rcases c with c | c
        · have := hz c hA; rw [c, this]; simp
        · have := hz c hB; rw [c, this]; simp
      rw [hr, hP0]
      refine ⟨0, 0, 0, 0, ?_, ?_, ?_, ?_, ⟨z0, z0, z0, z0⟩, ⟨z0, z0, z0, z0⟩, by omega, by omega, by omega⟩ <;> rw [Int.zero_mul]
      · exact hh.1
      · exact hh.2.1
      · exact hh.2.2.1
      · exact hh.2.2.2
    · have ha : a ≠ 0 := fun h => c (Or.inl h)
      have hb : b ≠ 0 := fun h => c (Or.inr h)
      obtain ⟨w1, w2, w3, w4⟩ := halves_whole a b H I kH ha hb hA hB ⟨P, by rw [e, Int.mul_comm]⟩
      obtain ⟨hi, e1⟩ := w1
      obtain ⟨li, e2⟩ := w2
      obtain ⟨hk, e3⟩ := w3
      obtain ⟨lk, e4⟩ := w4
      rw [Int.mul_comm _ hi] at e1
      rw [Int.mul_comm _ li] at e2
      rw [Int.mul_comm _ hk] at e3
      rw [Int.mul_comm _ lk] at e4
      obtain ⟨j, nA, dA, sA⟩ := hA.sc ha
      obtain ⟨m, nB, dB, sB⟩ := hB.sc hb
      have sc : ∀ {u v V : Int}, u * v = V * ((2 ^ kH : Nat) : Int) → (u * ((2 ^ j : Nat) : Int)) * (v * ((2 ^ m : Nat) : Int)) = V * ((2 ^ (kH + (j + m)) : Nat) : Int) := fun {u v V} h => by
        rw [pow_cast_add, pow_cast_add]
        exact sc_mul h
      refine ⟨hi, li, hk, lk, e1, e2, e3, e4, dekker _ _ _ _ nA dA nB dB (kH + (j + m)) sA sB P hi li hk lk (sc e) (sc e1) ?_ ?_ ?_⟩
      · rw [← Int.sub_mul]; exact sc e2
      · rw [← Int.sub_mul]; exact sc e3
      · rw [← Int.sub_mul, ← Int.sub_mul]; exact sc e4
  obtain ⟨M, hM⟩ : ∃ M, 2 ^ kG = M := ⟨_, rfl⟩
  rw [hM] at hP ⊢
  have hb : ∀ {V : Int}, V.natAbs ≤ 4 * P.natAbs → V.natAbs ≤ 9007199254740992 * 2 ^ kG := fun {V} h => by rw [hM]; omega
  obtain ⟨p, hp1, hp2⟩ := fin_mul x y a b P hx hy e (hb (by omega))
  obtain ⟨q1, m1, n1⟩ := fin_mul l k _ _ lk vl vk e4 (hb b4)
  obtain ⟨q2, m2, n2⟩ := fin_mul h i _ _ hi vh vi e1 (hb b1)
  obtain ⟨q4, m4, n4⟩ := fin_mul l i _ _ li vl vi e2 (hb b2)
  obtain ⟨q6, m6, n6⟩ := fin_mul h k _ _ hk vh vk e3 (hb b3)
  rw [rz_exact f4] at n1
  rw [rz_exact f1] at n2
  rw [rz_exact f2] at n4
  rw [rz_exact f3] at n6
  obtain ⟨q3, m3, n3, _⟩ := fin_sub p q2 _ _ hp2 n2 (hb c1)
  rw [rz_exact g1] at n3
  obtain ⟨q5, m5, n5, _⟩ := fin_sub q3 q4 _ _ n3 n4 (hb c2)
  rw [rz_exact g2] at n5
  obtain ⟨q7, m7, n7, _⟩ := fin_sub q5 q6 _ _ n5 n6 (hb c3)
  rw [rz_exact g3] at n7
  obtain ⟨r, m8, n8, _⟩ := fin_sub q1 q7 _ _ n1 n7 (by rw [eE]; exact hb c4)
  rw [eE, rz_exact g4] at n8
  exact ⟨p, q1, q2, q3, q4, q5, q6, q7, r, hp1, m1, m2, m3, m4, m5, m6, m7, m8, hp2, n8, g4, by have := hb c4; rw [hM] at this; exact this⟩
end Go.Proofs.YtpjdmhidhllbkaaGreatDoor

namespace Go.Proofs.YtpjdmhidhllbkaaGreatDoor
open Go.RowKit Go.IntWalk

set_option maxRecDepth 4000 in
set_option maxHeartbeats 1000000 in
theorem xAbs_core (p bd : Nat) (v e : Int) (w : World) (h : NumAt w p v bd) (hbd : bd ≤ 900000) :
    Calls Tryz.prog 33 #[.agg #[.pointer (some ⟨p, 0, none⟩), .int .i64 e]] w fun r w' => ∃ q, r = .returned (.agg #[.pointer (some ⟨q, 0, none⟩), .int .i64 e]) ∧ w.heap.size ≤ q ∧ NumAt w' q (v.natAbs : Int) bd ∧ Below w.heap.size w w' := by
  obtain ⟨W0, hW0⟩ : ∃ V, Hid ((w.alloc (XBox (some ⟨p, 0, none⟩) e)).alloc (XBox none 0) = V) := ⟨_, rfl⟩
  obtain ⟨g1, g2⟩ := two_blk w (XBox (some ⟨p, 0, none⟩) e) (XBox none 0)
  have HS0 : Hid (W0.heap.size = w.heap.size + 2) := by
    show W0.heap.size = w.heap.size + 2
    rw [← hW0.out]; simp
  have HB0 : Hid (Below w.heap.size w W0) := by
    rw [← hW0.out]
    exact ((Below.refl _ _).alloc (Nat.le_refl _) _).alloc (by simp) _
  rw [hW0.out] at g1 g2
  have HK : Hid (∀ W, Hid (XRes (w.heap.size + 1) W0 W) → (W.cell? ⟨w.heap.size, 0, none⟩ = some (.pointer (some ⟨p, 0, none⟩)) ∧ W.cell? ⟨w.heap.size, 1, none⟩ = some (.int .i64 e)) ∧ Hid (XRes (w.heap.size + 1) W0 W)) := fun W hW => by
    have := xcells_of ((hW.out.1.block _ (by rw [HS0.out]; omega) (by omega)).trans g1)
    exact ⟨⟨this.1, this.2.1⟩, hW⟩
  have HQR : Hid (XRes (w.heap.size + 1) W0 W0) := ⟨But.refl _ _, _, _, g2⟩
  obtain ⟨V1, hV1⟩ : ∃ V, Hid ((W0.alloc (.cells #[.bool false, .slice none 0 0] 92)).drew = V) := ⟨_, rfl⟩
  have HN : Hid (Calls Tryz.prog 67 #[.pointer (some ⟨W0.heap.size, 0, none⟩), .pointer (some ⟨p, 0, none⟩)] (W0.alloc (.cells #[.bool false, .slice none 0 0] 92)).drew fun r w' => r = .returned (.pointer (some ⟨W0.heap.size, 0, none⟩)) ∧ Hid (NumAt w' W0.heap.size (v.natAbs : Int) bd ∧ w'.heap[w.heap.size + 1]? = some (XBox none 0)) ∧ (∀ o, w'.frozen? ⟨w.heap.size + 1, o, none⟩ = false) ∧ w'.cell? ⟨w.heap.size + 1, 0, none⟩ = some (.pointer none) ∧ w'.cell? ⟨w.heap.size + 1, 1, none⟩ = some (.int .i64 0) ∧ Hid (XRes (w.heap.size + 1) W0 w')) := by
    have hx := xr_dr (xr_al HQR (.cells #[.bool false, .slice none 0 0] 92))
    have hbw : Below w.heap.size w (W0.alloc (.cells #[.bool false, .slice none 0 0] 92)).drew := (HB0.out.alloc HB0.out.size _).drew
    refine (NAbs W0.heap.size p v bd _ (zok_dr (fresh_zok W0)) (h.below hbw) hbd).mono ?_
    rintro r w' ⟨rfl, hn, hbt⟩
    have hB' := hx.out.but hbt (Nat.le_refl _) (by rw [HS0.out]; omega)
    have hr : w'.heap[w.heap.size + 1]? = some (XBox none 0) := by
      rw [hbt.block (w.heap.size + 1) (by show _ < (W0.alloc _).heap.size; simp; have := HS0.out; omega) (by have := HS0.out; omega)]
      show (W0.alloc _).heap[w.heap.size + 1]? = _
      rw [((Below.refl W0.heap.size W0).alloc (Nat.le_refl _) _).block _ (by have := HS0.out; omega)]
      exact g2
    obtain ⟨f1, f2, f3⟩ := xcells_of hr
    exact ⟨rfl, ⟨hn, hr⟩, f3, f1, f2, hB'⟩
  unfold XBox at hW0
  clear h hbd g1 g2
  go_enter Tryz.func33, Tryz.ntmps33
  go_wp2_with fail
  rw [hW0.out]
  go_region_held3 (fun W => (W.cell? ⟨w.heap.size, 0, none⟩ = some (.pointer (some ⟨p, 0, none⟩)) ∧ W.cell? ⟨w.heap.size, 1, none⟩ = some (.int .i64 e)) ∧ Hid (XRes (w.heap.size + 1) W0 W))
    ((refine HK.out _ ?_; repeat' (first | with_reducible assumption | with_reducible exact HQR | with_reducible refine xr_al ?_ _ | with_reducible refine xr_dr ?_ | with_reducible refine xr_store ?_ _ _)))
    (first
      | (go_at_call 67; refine HN.out.mono ?_; rintro r w3 ⟨rfl, HF, fz, c0, c1, HB3⟩))
  go_wp2
  exact bodyPost_ret (v := .agg #[.pointer (some ⟨W0.heap.size, 0, none⟩), .int .i64 e]) (by simp [results, Tryz.results33, go_sem, c0, c1]) rfl ⟨W0.heap.size, rfl, by have := HS0.out; omega, HF.out.1.stored (by have := HS0.out; omega) HF.out.2 _ _, HB0.out.trans ((xr_store HB3 _ _).out.1.below HB0.out.size (by omega))⟩
theorem ExV.base {w : World} {p : Nat} {e B z : Int} {bd : Nat} (h : ExV w p e B z bd) (n : Nat) : ExV w p e (B - n) (z * ((2 ^ n : Nat) : Int)) bd := by
  obtain ⟨v, k, h1, h2, h3⟩ := h
  refine ⟨v, k + n, h1, by omega, ?_⟩
  rw [h3, Int.pow_add, Int.mul_assoc, Int.natCast_pow]
  rfl
theorem xAbs_val (p bd : Nat) (e B z : Int) (w : World) (h : ExV w p e B z bd) (hbd : bd ≤ 400000) :
    Calls Tryz.prog 33 #[.agg #[.pointer (some ⟨p, 0, none⟩), .int .i64 e]] w fun r w' => ∃ q, r = .returned (.agg #[.pointer (some ⟨q, 0, none⟩), .int .i64 e]) ∧ ExV w' q e B (z.natAbs : Int) bd ∧ Below w.heap.size w w' := by
  obtain ⟨v, k, h1, h2, h3⟩ := h
  refine (xAbs_core p bd v e w h1 (by omega)).mono ?_
  rintro r w' ⟨q, rfl, hq, hn, hb⟩
  exact ⟨q, rfl, ⟨(v.natAbs : Int), k, hn, h2, by rw [h3, Int.natAbs_mul, Int.natAbs_pow, Int.natCast_mul, Int.natCast_pow]; rfl⟩, hb⟩
set_option maxRecDepth 4000 in
set_option maxHeartbeats 1000000 in
theorem xPower_any (e : Int) (w : World) : Calls Tryz.prog 32 #[.int .i64 e] w fun r w' => ∃ q, r = .returned (.agg #[.pointer (some ⟨q, 0, none⟩), .int .i64 e]) ∧ NumAt w' q 1 2 ∧ Below w.heap.size w w' := by
  have HN := hid (fun (W : World) => NNew 1 W (by decide))
  obtain ⟨W0, hW0⟩ : ∃ V, Hid (w.alloc (XBox none 0) = V) := ⟨_, rfl⟩
  have HS0 : Hid (W0.heap.size = w.heap.size + 1) := by
    show W0.heap.size = w.heap.size + 1
    rw [← hW0.out]; simp
  have HB0 : Hid (Below w.heap.size w W0) := by
    rw [← hW0.out]
    exact (Below.refl _ _).alloc (Nat.le_refl _) _
  have HG : Hid (∀ W, Below W0.heap.size W0 W → W.heap[w.heap.size]? = some (XBox none 0)) := fun W hW => by
    rw [hW.block _ (by have := HS0.out; omega), ← hW0.out]
    exact new_blk _ _ _ rfl
  unfold XBox at hW0
  go_enter Tryz.func32, Tryz.ntmps32
  go_wp2_with fail
  rw [hW0.out]
  refine (HN.out _).mono ?_
  rintro r w1 ⟨rfl, hn1, hb1⟩
  have hg := HG.out _ hb1
  have HGG := hid hg
  obtain ⟨c0, c1, fz⟩ := xcells_of (show w1.heap[w.heap.size]? = some (.cells #[.pointer none, .int .i64 0] 48) from hg)
  have HN1 := hid hn1
  have HB1 := hid (HB0.out.trans (hb1.mono HB0.out.size))
  clear hn1 hb1 hg
  go_wp2
  exact bodyPost_ret (v := .agg #[.pointer (some ⟨W0.heap.size, 0, none⟩), .int .i64 e]) (by simp [results, Tryz.results32, go_sem, c0, c1]) rfl ⟨W0.heap.size, rfl, HN1.out.stored (by have := HS0.out; omega) HGG.out _ _, Below.setCell (Below.setCell HB1.out (Nat.le_refl _) _) (Nat.le_refl _) _⟩
theorem three_fin (a b p : Nat) (ha : a < 18446744073709551616) (hb : b < 18446744073709551616) (hp : p < 18446744073709551616) (fa : a % 9223372036854775808 < 9218868437227405312) (fb : b % 9223372036854775808 < 9218868437227405312) (fp : p % 9223372036854775808 < 9218868437227405312) (k cap : Nat) (W : World) (hk : k < W.heap.size) (h0 : W.cell? ⟨k, 0, none⟩ = some (.float .f64 a)) (h1 : W.cell? ⟨k, 1, none⟩ = some (.float .f64 b)) (h2 : W.cell? ⟨k, 2, none⟩ = some (.float .f64 p)) :
    Calls Tryz.prog 41 #[.slice (some ⟨k, 0, none⟩) 3 cap] W fun r w' => r = .returned (.bool true) ∧ Below W.heap.size W w' := by
  have := Finite_any [a, b, p] k 0 cap W hk (fun i hi => by
      have hi2 : i < 3 := hi
      match i, hi2 with
      | 0, _ => exact h0
      | 1, _ => exact h1
      | 2, _ => exact h2) (fun i hi => by
      have hi2 : i < 3 := hi
      match i, hi2 with
      | 0, _ => exact ha
      | 1, _ => exact hb
      | 2, _ => exact hp) (by simp)
  have e : allFin [a, b, p] = true := by
    have x1 := exp_fin a fa
    have x2 := exp_fin b fb
    have x3 := exp_fin p fp
    simp [allFin, x1, x2, x3]
  rw [e] at this
  exact this
end Go.Proofs.YtpjdmhidhllbkaaGreatDoor
