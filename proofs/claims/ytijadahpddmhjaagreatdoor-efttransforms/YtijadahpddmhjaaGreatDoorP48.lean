
/- eft's Fused and the document's, of any numbers. -/
import Derived.Test.YtijadahpddmhjaaGreatDoorP26
import Derived.Test.YtijadahpddmhjaaGreatDoorP45
import Derived.Test.YtijadahpddmhjaaGreatDoorP47
import Derived.Test.YtijadahpddmhjaaGreatDoorP36
namespace Go.Proofs.YtijadahpddmhjaaGreatDoor
open Go.RowKit Go.IntWalk

theorem mul_sg (x y : Nat) (hx : x < 18446744073709551616) (hy : y < 18446744073709551616) (fx : x % 9223372036854775808 < 9218868437227405312) (fy : y % 9223372036854775808 < 9218868437227405312) :
    FloatKind.f64.format.mul x y = some (signN (decide (9223372036854775808 ≤ x) ^^ decide (9223372036854775808 ≤ y)) (rndM (sv x * sv y).natAbs (-2148))) := by
  obtain ⟨m, p, ex, vx⟩ := read_fin x hx fx
  obtain ⟨n, q, ey, vy⟩ := read_fin y hy fy
  have fa := sv_form x m p vx
  have fb := sv_form y n q vy
  unfold Ieee.Format.mul
  rw [ex, ey]
  show some (FloatKind.f64.format.nearest _ (m * n) ((p : Int) - 1074 + ((q : Int) - 1074))) = _
  have hv : (sv x * sv y).natAbs = m * n * 2 ^ (p + q) := by
    have ha : (sv x).natAbs = m * 2 ^ p := by
      rw [fa]; split <;> simp only [Int.natAbs_neg, Int.natAbs_natCast]
    have hb : (sv y).natAbs = n * 2 ^ q := by
      rw [fb]; split <;> simp only [Int.natAbs_neg, Int.natAbs_natCast]
    rw [Int.natAbs_mul, ha, hb, Nat.pow_add, Nat.mul_assoc, Nat.mul_assoc, Nat.mul_left_comm (2 ^ p)]
  have := rndM_sc (m * n) (p + q) ((p : Int) - 1074 + ((q : Int) - 1074))
  rw [← hv, show (p : Int) - 1074 + ((q : Int) - 1074) - ((p + q : Nat) : Int) = -2148 by omega] at this
  rw [(near_rnd _ (m * n) _).1, this]
theorem fma_sg (x y z : Nat) (hx : x < 18446744073709551616) (hy : y < 18446744073709551616) (hz : z < 18446744073709551616) (fx : x % 9223372036854775808 < 9218868437227405312) (fy : y % 9223372036854775808 < 9218868437227405312) (fz : z % 9223372036854775808 < 9218868437227405312) :
    FloatKind.f64.format.fma x y z = some (signN (if sv x * sv y + sv z * ((2 ^ kH : Nat) : Int) = 0 then (decide (9223372036854775808 ≤ x) ^^ decide (9223372036854775808 ≤ y)) && decide (9223372036854775808 ≤ z) else decide (sv x * sv y + sv z * ((2 ^ kH : Nat) : Int) < 0)) (rndM (sv x * sv y + sv z * ((2 ^ kH : Nat) : Int)).natAbs (-2148))) := by
  obtain ⟨m, p, ex, vx⟩ := read_fin x hx fx
  obtain ⟨n, q, ey, vy⟩ := read_fin y hy fy
  obtain ⟨o, r, ez, vz⟩ := read_fin z hz fz
  have fa := xor_form x y m n p q (sv_form x m p vx) (sv_form y n q vy)
  have fc : sv z * ((2 ^ kH : Nat) : Int) = if (decide (9223372036854775808 ≤ z)) then -((o * 2 ^ (r + kH) : Nat) : Int) else ((o * 2 ^ (r + kH) : Nat) : Int) := by
    rw [sv_form z o r vz, Nat.pow_add, ← Nat.mul_assoc, Int.natCast_mul (o * 2 ^ r)]
    by_cases c : 9223372036854775808 ≤ z <;> simp only [c, decide_true, decide_false, if_true, if_false, Int.neg_mul, Bool.false_eq_true]
  obtain ⟨mag, b, e, hv⟩ := sum_valK 2148 _ _ (m * n) o (p + q) (r + kH) _ _ fa fc
  have k1 : (p : Int) - 1074 + ((q : Int) - 1074) = ((p + q : Nat) : Int) - 2148 := by omega
  have k2 : (r : Int) - 1074 = ((r + kH : Nat) : Int) - 2148 := by have := kH_is; omega
  obtain ⟨V, hV⟩ : ∃ V : Int, sv x * sv y + sv z * ((2 ^ kH : Nat) : Int) = V := ⟨_, rfl⟩
  rw [hV] at e hv ⊢
  unfold Ieee.Format.fma
  rw [ex, ey, ez]
  show (((Ieee.Datum.number (decide (9223372036854775808 ≤ x) ^^ decide (9223372036854775808 ≤ y)) (m * n) ((p : Int) - 1074 + ((q : Int) - 1074))).sum (.number _ o ((r : Int) - 1074))).map _) = _
  rw [k1, k2, e]
  show some (FloatKind.f64.format.nearest _ mag ((b : Int) - 2148)) = _
  have := rndM_sc mag b ((b : Int) - 2148)
  rw [hv, show (b : Int) - 2148 - (b : Int) = -2148 by omega] at this
  rw [(near_rnd _ mag _).1, this]
/-- What a product's rounding took away. -/
def fuV (a b p : Nat) : Int := sv a * sv b + -(sv p * ((2 ^ kH : Nat) : Int))
def fuE (a b p : Nat) : Nat := rndI (fuV a b p) (-2148)
theorem fma_lost (a b p : Nat) (ha : a < 18446744073709551616) (hb : b < 18446744073709551616) (hp : p < 18446744073709551616) (fa : a % 9223372036854775808 < 9218868437227405312) (fb : b % 9223372036854775808 < 9218868437227405312) (fp : p % 9223372036854775808 < 9218868437227405312) (hm : FloatKind.f64.format.mul a b = some p) :
    FloatKind.f64.format.fma a b (flipOf p) = some (fuE a b p) := by
  obtain ⟨g1, g2⟩ := flip_md p hp
  have h := fma_sg a b (flipOf p) ha hb (flip_lt hp) fa fb (by rw [g1]; exact fp)
  have hs := mul_sg a b ha hb fa fb
  rw [hm] at hs
  have hs' := Option.some.inj hs
  have e : sv a * sv b + sv (flipOf p) * ((2 ^ kH : Nat) : Int) = fuV a b p := by unfold fuV; rw [sv_flip p hp, Int.neg_mul]
  rw [e] at h
  rw [h]
  unfold fuE rndI
  congr 2
  by_cases c : fuV a b p = 0
  · rw [if_pos c, c, show decide ((0 : Int) < 0) = false from rfl]
    have hr : rndM (sv a * sv b).natAbs (-2148) < 9223372036854775808 := by have := (near_rnd false (sv a * sv b).natAbs (-2148)).2; omega
    obtain ⟨m1, m2, m3⟩ := signN_mod (decide (9223372036854775808 ≤ a) ^^ decide (9223372036854775808 ≤ b)) _ hr
    rw [← hs'] at m2
    have : decide (9223372036854775808 ≤ flipOf p) = !decide (9223372036854775808 ≤ p) := by
      by_cases d : 9223372036854775808 ≤ p
      · rw [decide_eq_true d, decide_eq_false (fun x => g2.1 x d)]; rfl
      · rw [decide_eq_false d, decide_eq_true (g2.2 d)]; rfl
    rw [this, m2]
    cases (decide (9223372036854775808 ≤ a) ^^ decide (9223372036854775808 ≤ b)) <;> rfl
  · rw [if_neg c]
theorem fuE_can (a b p : Nat) : canonOf (fuE a b p) = fuE a b p ∧ fuE a b p < 18446744073709551616 := by
  unfold fuE rndI
  have hr := (near_rnd false (fuV a b p).natAbs (-2148)).2
  obtain ⟨m1, m2, m3⟩ := signN_mod (decide (fuV a b p < 0)) (rndM (fuV a b p).natAbs (-2148)) (by omega)
  refine ⟨?_, m3⟩
  unfold canonOf
  rw [if_neg (by rw [m1]; omega)]
end Go.Proofs.YtijadahpddmhjaaGreatDoor

namespace Go.Proofs.YtijadahpddmhjaaGreatDoor
open Go.RowKit Go.IntWalk

theorem NumAt.tght {w : World} {p bd : Nat} {v : Int} (h : NumAt w p v bd) (k : Nat) (hv : v.natAbs < 4294967296 ^ k) : NumAt w p v k := by
  obtain ⟨neg, L, h1, h2, h3⟩ := h
  refine ⟨neg, L, h1, ?_, h3⟩
  obtain ⟨a, cap, ho, hcap, hm, hd, hc, hn⟩ := h3
  refine len_small L k hc ?_
  have : v.natAbs = natL L := by rw [← h1]; unfold intL; split <;> omega
  rw [← this]
  exact hv
theorem ExV.tght {w : World} {p bd : Nat} {e B z : Int} (h : ExV w p e B z bd) (k : Nat) (hz : z.natAbs < 4294967296 ^ k) : ExV w p e B z k := by
  obtain ⟨v, j, h1, h2, h3⟩ := h
  refine ⟨v, j, h1.tght k ?_, h2, h3⟩
  have e : z.natAbs = v.natAbs * 2 ^ j := by rw [h3, Int.natAbs_mul, Int.natAbs_pow]; rfl
  have : v.natAbs * 1 ≤ v.natAbs * 2 ^ j := Nat.mul_le_mul_left _ (Nat.two_pow_pos j)
  omega
def kY : Nat := 5000
def kW : Nat := 160
theorem pow_t (k : Nat) : (4294967296 : Nat) ^ k = 2 ^ (32 * k) := by rw [show (4294967296 : Nat) = 2 ^ 32 by decide, ← Nat.pow_mul]
theorem fuV_lt (a b p : Nat) (fa : a % 9223372036854775808 < 9218868437227405312) (fb : b % 9223372036854775808 < 9218868437227405312) (fp : p % 9223372036854775808 < 9218868437227405312) : (fuV a b p).natAbs < 4294967296 ^ kW := by
  obtain ⟨_, _, _, h1, _⟩ := sv_parts a fa
  obtain ⟨_, _, _, h2, _⟩ := sv_parts b fb
  obtain ⟨_, _, _, h3, _⟩ := sv_parts p fp
  have e1 : (sv a * sv b).natAbs ≤ 2 ^ (kN + kN) := by
    rw [Int.natAbs_mul, Nat.pow_add]; exact Nat.mul_le_mul (Nat.le_of_lt h1) (Nat.le_of_lt h2)
  have e2 : (sv p * ((2 ^ kH : Nat) : Int)).natAbs ≤ 2 ^ (kN + kH) := by
    rw [Int.natAbs_mul, Int.natAbs_natCast, Nat.pow_add]; exact Nat.mul_le_mul_right _ (Nat.le_of_lt h3)
  have k1 : 2 ^ (kN + kN) ≤ 2 ^ kY := Nat.pow_le_pow_right (by decide) (by decide)
  have k2 : 2 ^ (kN + kH) ≤ 2 ^ kY := Nat.pow_le_pow_right (by decide) (by decide)
  have k3 : 4 * 2 ^ kY ≤ 4294967296 ^ kW := by
    rw [pow_t, show 4 = 2 ^ 2 by decide, ← Nat.pow_add]; exact Nat.pow_le_pow_right (by decide) (by decide)
  have k4 := Nat.two_pow_pos kY
  unfold fuV
  generalize sv a * sv b = x at *
  generalize sv p * ((2 ^ kH : Nat) : Int) = y at *
  generalize 2 ^ (kN + kN) = q1 at *
  generalize 2 ^ (kN + kH) = q2 at *
  generalize 2 ^ kY = q3 at *
  generalize 4294967296 ^ kW = q4 at *
  omega
/-- Whether Fused's three numbers are finite. -/
def fuF (a b : Nat) : Bool := allFin [a, b, caf .mul (canonOf a) (canonOf b)]
theorem exp_can (x : Nat) : expOf (canonOf x) = expOf x := by unfold expOf; rw [canon_twice]
theorem fuF_is (a b : Nat) (w : World) (ha : a < 18446744073709551616) (hb : b < 18446744073709551616) : allFin [a, b, arF .mul a b w] = fuF a b := by
  unfold fuF allFin
  rw [← canon_ar ok_m a b w ha hb]
  simp [exp_can]
theorem exp_not (x : Nat) (h : (expOf x == 2047) = false) : x % 9223372036854775808 < 9218868437227405312 := by
  rw [beq_eq_false_iff_ne] at h
  unfold expOf canonOf at h
  split at h <;> omega
theorem fuF_yes (a b : Nat) (h : fuF a b = true) :
    ∃ p, FloatKind.f64.format.mul a b = some p ∧ p < 18446744073709551616 ∧ a % 9223372036854775808 < 9218868437227405312 ∧ b % 9223372036854775808 < 9218868437227405312 ∧ p % 9223372036854775808 < 9218868437227405312 ∧ caf .mul (canonOf a) (canonOf b) = p ∧ canonOf p = p := by
  unfold fuF allFin at h
  simp at h
  obtain ⟨h1, h2, h3⟩ := h
  have fa := exp_not a (by simpa using h1)
  have fb := exp_not b (by simpa using h2)
  have fp := exp_not _ (show (expOf (caf .mul (canonOf a) (canonOf b)) == 2047) = false by simpa using h3)
  have ca := canon_fin fa
  have cb := canon_fin fb
  rw [ca, cb] at fp ⊢
  unfold caf at fp ⊢
  cases e : floatBits .mul .f64 a b with
  | none => rw [e] at fp; exact absurd fp (by decide)
  | some p =>
    rw [e] at fp
    have fp' : canonOf p % 9223372036854775808 < 9218868437227405312 := fp
    have hp := fb_lt ok_m e
    have : canonOf p = p := by
      rcases canon_is p hp with ⟨n1, e1⟩ | ⟨n1, e1⟩
      · rw [e1] at fp'; exact absurd fp' (by decide)
      · exact e1
    rw [this] at fp'
    exact ⟨p, e, hp, fa, fb, fp', this, this⟩
theorem f64fromT (n : Int) (w : World) : (callFunc 30 #[.int .u64 n]).run Tryz.prog w = .ok (.value (.float .f64 n.toNat)) w := by
  rw [run_callFunc_extern Tryz.func30 (by kernel_rfl) (by kernel_rfl) (by kernel_rfl) (e := Extern.MathFloatBits.float64frombits) (by kernel_rfl)]; rfl
set_option maxHeartbeats 400000 in
theorem nan4_lib (w : World) : Calls Tryz.prog 34 #[] w fun r w' => r = .returned (.float .f64 9221120237041090561) ∧ w' = w := by
  have h2 := f64fromT
  go_enter Tryz.func34, Tryz.ntmps34
  go_wp2
  go_ret
  exact ⟨rfl, rfl⟩
set_option maxHeartbeats 400000 in
theorem rnan4 (w : World) : Calls Tryz.prog 37 #[] w fun r w' => r = .returned (.float .f64 9221120237041090561) ∧ w' = w := by
  have h2 := f64fromT
  go_enter Tryz.func37, Tryz.ntmps37
  go_wp2
  go_ret
  exact ⟨rfl, rfl⟩
/-- The second number that Fused answers. -/
def fusE (a b : Nat) : Nat := if fuF a b then fuE a b (caf .mul (canonOf a) (canonOf b)) else 9221120237041090561
set_option maxRecDepth 4000 in
set_option maxHeartbeats 1000000 in
theorem Fused_can (a b : Nat) (w : World) (ha : a < 18446744073709551616) (hb : b < 18446744073709551616) :
    Calls Tryz.prog 15 #[.float .f64 a, .float .f64 b] w fun r w' => r = .returned (.tuple #[.float .f64 (caf .mul (canonOf a) (canonOf b)), .float .f64 (fusE a b)]) ∧ Below w.heap.size w w' := by
  cases hF : fuF a b with
  | true =>
    obtain ⟨p, m0, hp, fa, fb, fp, e1, e2⟩ := fuF_yes a b hF
    unfold fusE
    rw [hF, if_pos rfl, e1]
    exact Fused_at a b p _ w ha hb hp fa fb fp m0 (fma_lost a b p ha hb hp fa fb fp m0)
  | false =>
    unfold fusE
    rw [hF, if_neg (by decide)]
    have r3 := ar_run .mul ok_m
    have HE := hid (fun (W : World) => canon_ar ok_m a b W ha hb)
    have HF : Hid (∀ (W : World) (k cap : Nat) (V : World), k < V.heap.size → V.cell? ⟨k, 0, none⟩ = some (.float .f64 a) → V.cell? ⟨k, 1, none⟩ = some (.float .f64 b) → V.cell? ⟨k, 2, none⟩ = some (.float .f64 (arF .mul a b W)) → Calls Tryz.prog 33 #[.slice (some ⟨k, 0, none⟩) 3 cap] V fun r w' => r = .returned (.bool false) ∧ Below V.heap.size V w') := fun W k cap V hk h0 h1 h2 => by
      have hp := arF_lt ok_m a b W
      have hq := fuF_is a b W ha hb
      rw [hF] at hq
      have := Finite_any [a, b, arF .mul a b W] k 0 cap V hk (fun i hi => by
          have hi2 : i < 3 := hi
          match i, hi2 with
          | 0, _ => exact h0
          | 1, _ => exact h1
          | 2, _ => exact h2) (fun i hi => by
          have hi2 : i < 3 := hi
          match i, hi2 with
          | 0, _ => exact ha
          | 1, _ => exact hb
          | 2, _ => exact hp) (by simp)
      rw [hq] at this
      exact this
    have HN := hid (fun (W : World) => Canon_any 9221120237041090561 W (by decide))
    have HL := hid (fun (W V : World) => Canon_any (arF .mul a b W) V (arF_lt ok_m a b W))
    rw [← HE.out w]
    have HSZ := hid (arG_heap .mul a b w)
    have HBA : Hid (Below w.heap.size w (arG .mul a b w)) := bl_ar (Below.refl _ _) _ _ _
    clear hF ha hb
    go_enter Tryz.func15, Tryz.ntmps15
    go_wp2_with fail
    refine (HF.out w _ _ _ (by simp) (by simp [go_sem]) (by simp [go_sem]) (by simp [go_sem])).mono ?_
    rintro z w1 ⟨rfl, hb1⟩
    have HB1 : Hid (Below w.heap.size w w1) := (HBA.out.alloc HBA.out.size _).trans (hb1.mono (by have := HBA.out.size; simp; omega))
    clear hb1
    go_wp2_with fail
    refine (HL.out w _).mono ?_
    rintro z w2 ⟨rfl, hb2⟩
    have HB2 := hid (HB1.out.trans (hb2.mono HB1.out.size))
    clear hb2
    go_wp2_with fail
    refine (nan4_lib _).mono ?_
    rintro z w9 ⟨rfl, rfl⟩
    go_wp2_with fail
    refine (HN.out _).mono ?_
    rintro z w3 ⟨rfl, hb3⟩
    have HB3 := hid (HB2.out.trans (hb3.mono HB2.out.size))
    clear hb3
    go_wp2
    go_ret2
    exact ⟨rfl, HB3.out⟩
theorem rndI_zero (B : Int) : rndI 0 B = 0 := by
  unfold rndI rndM
  simp [signN]
set_option maxRecDepth 4000 in
set_option maxHeartbeats 4000000 in
theorem rFused_no (a b : Nat) (w : World) (ha : a < 18446744073709551616) (hb : b < 18446744073709551616) (hF : fuF a b = false) :
    Calls Tryz.prog 16 #[.float .f64 a, .float .f64 b] w fun r w' => ∃ s e, r = .returned (.tuple #[.float .f64 s, .float .f64 e]) ∧ canonOf s = caf .mul (canonOf a) (canonOf b) ∧ canonOf e = fusE a b ∧ s < 18446744073709551616 ∧ e < 18446744073709551616 ∧ Below w.heap.size w w' := by
  unfold fusE
  rw [hF, if_neg (by decide)]
  have r3 := ar_run .mul ok_m
  have HE := hid (fun (W : World) => canon_ar ok_m a b W ha hb)
  have HP := hid (fun (W : World) => arF_lt ok_m a b W)
  have HF : Hid (∀ (W : World) (k cap : Nat) (V : World), V.cell? ⟨k, 0, none⟩ = some (.float .f64 a) → V.cell? ⟨k, 1, none⟩ = some (.float .f64 b) → V.cell? ⟨k, 2, none⟩ = some (.float .f64 (arF .mul a b W)) → Calls Tryz.prog 36 #[.slice (some ⟨k, 0, none⟩) 3 cap] V fun r w' => r = .returned (.bool false) ∧ w' = V) := fun W k cap V h0 h1 h2 => by
    have hp := arF_lt ok_m a b W
    have hq := fuF_is a b W ha hb
    rw [hF] at hq
    have := rallfin_any [a, b, arF .mul a b W] k 0 cap V (fun i hi => by
        have hi2 : i < 3 := hi
        match i, hi2 with
        | 0, _ => exact h0
        | 1, _ => exact h1
        | 2, _ => exact h2) (fun i hi => by
        have hi2 : i < 3 := hi
        match i, hi2 with
        | 0, _ => exact ha
        | 1, _ => exact hb
        | 2, _ => exact hp) (by simp)
    rw [hq] at this
    exact this
  have HBA : Hid (Below w.heap.size w (arG .mul a b w)) := bl_ar (Below.refl _ _) _ _ _
  clear hF ha hb
  go_enter Tryz.func16, Tryz.ntmps16
  go_wp2_with fail
  refine (HF.out w _ _ _ (by simp [go_sem]) (by simp [go_sem]) (by simp [go_sem])).mono ?_
  rintro z w1 ⟨rfl, rfl⟩
  go_wp2_with fail
  refine (rnan4 _).mono ?_
  rintro z w1 ⟨rfl, rfl⟩
  go_wp2
  go_ret2
  exact ⟨_, _, rfl, HE.out w, by decide, HP.out w, by decide, HBA.out.alloc HBA.out.size _⟩
end Go.Proofs.YtijadahpddmhjaaGreatDoor

namespace Go.Proofs.YtijadahpddmhjaaGreatDoor
open Go.RowKit Go.IntWalk

theorem xfieldT (q : Option Addr) (e : Int) (w : World) : (Instr.field 34 (.agg #[.pointer q, .int .i64 e]) 1).run Tryz.prog w = .ok (.int .i64 e) w := by kernel_rfl
set_option maxRecDepth 4000 in
set_option maxHeartbeats 4000000 in
theorem rFused_yes (a b p : Nat) (w : World) (ha : a < 18446744073709551616) (hb : b < 18446744073709551616) (hp : p < 18446744073709551616) (fa : a % 9223372036854775808 < 9218868437227405312) (fb : b % 9223372036854775808 < 9218868437227405312) (fp : p % 9223372036854775808 < 9218868437227405312) (hm : FloatKind.f64.format.mul a b = some p) (hT : Tab32 w) (hs : 1 < w.heap.size) :
    Calls Tryz.prog 16 #[.float .f64 a, .float .f64 b] w fun r w' => r = .returned (.tuple #[.float .f64 p, .float .f64 (fuE a b p)]) ∧ Below w.heap.size w w' := by
  have hfl := xfieldT
  have hfl0 := xfield
  have g1 := f_mul hm
  have HT : Hid (∀ W, Below w.heap.size w W → Tab32 W ∧ 1 < W.heap.size) := fun W hW => ⟨hT.below hs hW, Nat.lt_of_lt_of_le hs hW.size⟩
  have HF : Hid (∀ (k cap : Nat) (V : World), V.cell? ⟨k, 0, none⟩ = some (.float .f64 a) → V.cell? ⟨k, 1, none⟩ = some (.float .f64 b) → V.cell? ⟨k, 2, none⟩ = some (.float .f64 p) → Calls Tryz.prog 36 #[.slice (some ⟨k, 0, none⟩) 3 cap] V fun r w' => r = .returned (.bool true) ∧ w' = V) := fun k cap V h0 h1 h2 => by
    have := rallfin_any [a, b, p] k 0 cap V (fun i hi => by
        have hi2 : i < 3 := hi
        match i, hi2 with
        | 0, _ => exact h0
        | 1, _ => exact h1
        | 2, _ => exact h2) (fun i hi => by
        have hi2 : i < 3 := hi
        match i, hi2 with
        | 0, _ => exact ha
        | 1, _ => exact hb
        | 2, _ => exact hp) (by simp)
    have e : allFin [a, b, p] = true := by
      have x1 := exp_fin a fa
      have x2 := exp_fin b fb
      have x3 := exp_fin p fp
      simp [allFin, x1, x2, x3]
    rw [e] at this
    exact this
  have HOA := hid (fun (W : World) => xOf_fin a W ha fa)
  have HOB := hid (fun (W : World) => xOf_fin b W hb fb)
  have HOP := hid (fun (W : World) => xOf_fin p W hp fp)
  have HLT := hid (fuV_lt a b p fa fb fp)
  clear hm hT hs ha hb hp fa fb fp
  go_enter Tryz.func16, Tryz.ntmps16
  go_wp2_with fail
  refine (HF.out _ _ _ (by simp [go_sem]) (by simp [go_sem]) (by simp [go_sem])).mono ?_
  rintro z w1 ⟨rfl, rfl⟩
  go_wp2_with fail
  refine (HOA.out _).mono ?_
  rintro r w3 ⟨p1, e1, rfl, ⟨b1, b1'⟩, hx1, hb3⟩
  have HX1 := hid hx1
  have HB3 : Hid (Below w.heap.size w w3) := ((Below.refl _ _).alloc (Nat.le_refl _) _).trans (hb3.mono (by simp))
  clear hx1 hb3
  go_wp2_with fail
  refine (HOB.out _).mono ?_
  rintro r w4 ⟨p2, e2, rfl, ⟨b2, b2'⟩, hx2, hb4⟩
  have HX1 := hid (HX1.out.below hb4)
  have HX2 := hid hx2
  have HB4 := hid (HB3.out.trans (hb4.mono HB3.out.size))
  clear hx2 hb4
  go_wp2_with fail
  refine (xMul_val p1 p2 _ _ e1 e2 _ _ _ _ _ HX1.out HX2.out (by decide) (by decide) (by decide) (by omega)).mono ?_
  obtain ⟨E, hE⟩ : ∃ E, Hid (e1 + e2 = E) := ⟨_, rfl⟩
  have hE1 : -2148 ≤ E := by rw [← hE.out]; omega
  have hE2 : E ≤ 4000 := by rw [← hE.out]; omega
  rw [hE.out]
  rintro r w5 ⟨q5, rfl, hx5, hb5⟩
  have HX5 : Hid (ExV w5 q5 E (-2148) (sv a * sv b) 4) := hx5
  have HB5 := hid (HB4.out.trans (hb5.mono HB4.out.size))
  clear hx5 hb5 b1 b1' b2 b2' HX1 HX2
  go_wp2_with fail
  refine (HOP.out _).mono ?_
  rintro r w6 ⟨p6, e6, rfl, ⟨b6, b6'⟩, hx6, hb6⟩
  have HX5 := hid (HX5.out.below hb6)
  have HX6 := hid hx6
  have HB6 := hid (HB5.out.trans (hb6.mono HB5.out.size))
  clear hx6 hb6
  go_wp2_with fail
  refine (xNeg_val p6 _ e6 _ _ _ HX6.out (by decide)).mono ?_
  rintro r w7 ⟨q7, rfl, hx7, hb7⟩
  have HX5 := hid (HX5.out.below hb7)
  have HX7 : Hid (ExV w7 q7 e6 (-2148) (-(sv p * ((2 ^ kH : Nat) : Int))) 2) := by
    have := hx7.base kH
    rw [show (-1074 : Int) - (kH : Int) = -2148 by rw [kH_is]; decide, Int.neg_mul] at this
    exact this
  have HB7 := hid (HB6.out.trans (hb7.mono HB6.out.size))
  clear hx7 hb7 HX6
  go_wp2_with fail
  refine (xAdd_val q5 q7 _ _ E e6 _ _ _ _ HX5.out HX7.out (by decide) (by decide) (by omega) (by omega)).mono ?_
  rintro r w8 ⟨q, e, rfl, ⟨b8, b8'⟩, hx8, hb8⟩
  have HX8 : Hid (ExV w8 q e (-2148) (fuV a b p) kW) := ExV.tght hx8 kW HLT.out
  have he1 : -10000 ≤ e := by omega
  have he2 : e ≤ 10000 := by omega
  have HB8 := hid (HB7.out.trans (hb8.mono HB7.out.size))
  clear hx8 hb8 b8 b8' HX5 HX7 HB3 HB4 HB5 HB6 HB7 hE hE1 hE2 b6 b6' HOA HOB HOP HLT HF
  obtain ⟨V, hV⟩ : ∃ V, Hid (w8.alloc (XBox (some ⟨q, 0, none⟩) e) = V) := ⟨_, rfl⟩
  have hal : Below w8.heap.size w8 V := by rw [← hV.out]; exact (Below.refl _ _).alloc (Nat.le_refl _) _
  have HBV : Hid (Below w.heap.size w V) := HB8.out.trans (hal.mono HB8.out.size)
  have HXV := hid (HX8.out.below hal)
  have h1 : V.heap[w8.heap.size]? = some (XBox (some ⟨q, 0, none⟩) e) := by rw [← hV.out]; exact new_blk _ _ _ rfl
  obtain ⟨z0, z1, _⟩ := xcells_of (show V.heap[w8.heap.size]? = some (.cells #[.pointer (some ⟨q, 0, none⟩), .int .i64 e] 34) from h1)
  clear h1 hal HX8
  unfold XBox at hV
  have hV' := hV.out
  obtain ⟨v, k, nv1, nv2, nv3⟩ := HXV.out
  have HNV := hid nv1
  have hsv : sgnZ v = sgnZ (fuV a b p) := by rw [nv3, xsgn]
  have HSV := hid hsv
  clear nv1 nv2 nv3 hsv
  go_wp2_with fail
  refine (NSign q v _ _ HNV.out).mono ?_
  rw [HSV.out]
  by_cases c : fuV a b p = 0
  · have c2 : fuE a b p = 0 := by unfold fuE; rw [c, rndI_zero]
    have C2 := hid c2
    rw [c, show sgnZ 0 = 0 from rfl]
    rintro r w9 ⟨rfl, rfl⟩
    clear HSV HNV c c2
    go_wp2
    go_ret2
    rw [C2.out]
    exact ⟨rfl, HBV.out⟩
  · obtain ⟨S, hS⟩ : ∃ S, Hid (sgnZ (fuV a b p) = S) := ⟨_, rfl⟩
    have hS0 : S ≠ 0 := by
      rw [← hS.out]
      intro h
      apply c
      revert h
      unfold sgnZ
      split <;> (try split) <;> omega
    rw [hS.out]
    rintro r w9 ⟨rfl, rfl⟩
    clear HSV HNV c
    have HR := hid (xRound0 q _ e _ _ _ HXV.out (by decide) he1 he2 (HT.out _ HBV.out).1 (HT.out _ HBV.out).2)
    go_wp2_with fail
    refine HR.out.mono ?_
    rintro r w10 ⟨rfl, hb10⟩
    have HB10 := hid (HBV.out.trans (hb10.mono HBV.out.size))
    clear hb10
    go_wp2
    go_ret2
    exact ⟨rfl, HB10.out⟩
theorem rFused_can (a b : Nat) (w : World) (ha : a < 18446744073709551616) (hb : b < 18446744073709551616) (hT : Tab32 w) (hs : 1 < w.heap.size) :
    Calls Tryz.prog 16 #[.float .f64 a, .float .f64 b] w fun r w' => ∃ s e, r = .returned (.tuple #[.float .f64 s, .float .f64 e]) ∧ canonOf s = caf .mul (canonOf a) (canonOf b) ∧ canonOf e = fusE a b ∧ s < 18446744073709551616 ∧ e < 18446744073709551616 ∧ Below w.heap.size w w' := by
  cases hF : fuF a b with
  | false => exact rFused_no a b w ha hb hF
  | true =>
    obtain ⟨p, m0, hp, fa, fb, fp, e1, e2⟩ := fuF_yes a b hF
    unfold fusE
    rw [hF, if_pos rfl, e1]
    refine (rFused_yes a b p w ha hb hp fa fb fp m0 hT hs).mono ?_
    rintro r w' ⟨rfl, h⟩
    obtain ⟨c1, c2⟩ := fuE_can a b p
    exact ⟨_, _, rfl, e2, c1, hp, c2, h⟩
set_option maxHeartbeats 1000000 in
theorem same4 (a c : Nat) (w : World) (hc : c < 18446744073709551616) (h : canonOf c = a) :
    Calls Tryz.prog 32 #[.float .f64 a, .float .f64 c] w fun r w' => r = .returned (.bool true) ∧ w' = w := by
  have h1 := f64bits
  have HC := hid (fun (W : World) => bits_any c W hc)
  rw [h] at HC
  clear h hc
  go_enter Tryz.func32, Tryz.ntmps32
  go_wp2_with fail
  refine (HC.out _).mono ?_
  rintro r w1 ⟨rfl, rfl⟩
  go_wp2
  go_ret
  exact ⟨by simp, rfl⟩
set_option maxHeartbeats 1000000 in
theorem two4 (a b c d : Nat) (w : World) (hc : c < 18446744073709551616) (hd : d < 18446744073709551616) (h : canonOf c = a) (h2 : canonOf d = b) :
    Calls Tryz.prog 8 #[.float .f64 a, .float .f64 b, .float .f64 c, .float .f64 d] w fun r w' => r = .returned (.bool true) ∧ w' = w := by
  have HC := hid (fun (W : World) => same4 a c W hc h)
  have HD := hid (fun (W : World) => same4 b d W hd h2)
  clear h h2 hc hd
  go_enter Tryz.func8, Tryz.ntmps8
  go_wp2_with fail
  refine (HC.out _).mono ?_
  rintro r w1 ⟨rfl, rfl⟩
  go_wp2_with fail
  refine (HD.out _).mono ?_
  rintro r w1 ⟨rfl, rfl⟩
  go_wp2
  go_ret
  exact ⟨rfl, rfl⟩
end Go.Proofs.YtijadahpddmhjaaGreatDoor
