
/- What the document's same does with what Take gives. (Written by mkr2s.py.) -/
import Derived.Test.YtpgcelbgmpfliaaGreatDoorV35
import Derived.Test.YtpgcelbgmpfliaaGreatDoorV42
import Derived.Test.YtpgcelbgmpfliaaGreatDoorV45
import Derived.Test.YtpgcelbgmpfliaaGreatDoorV34
namespace Go.Proofs.YtpgcelbgmpfliaaGreatDoor
open Go Go.RowKit Go.IntWalk

/-- What fits is rounded to itself. -/
theorem exact53 (m : Nat) (e mode : Int) (neg : Bool) (h0 : m ≠ 0) (hb : bitLen m ≤ 53) (he : -1074 ≤ e) (ht : e + (bitLen m : Int) - 1 ≤ 1023) : nv (rMag 53 (-1022) 1023 m e mode neg) = m * 2 ^ (e + 1074).toNat := by
  obtain ⟨f1, f2, f3, f4⟩ := fits_exact 53 (-1022) 1023 m e mode neg h0 (by omega) (by omega) ht
  obtain ⟨g1, g2, g3⟩ := rOver_not 53 (-1022) 1023 m e mode neg 53 rfl (by decide) (by decide) (by decide) f2
  have hs0 : rSteps 53 (-1022) m e mode neg ≠ 0 := by rw [f4]; exact Nat.mul_ne_zero h0 (Nat.pos_iff_ne_zero.1 (Nat.two_pow_pos _))
  obtain ⟨v1, v2⟩ := good_val _ _ hs0 g1 g2 g3
  have hr : rMag 53 (-1022) 1023 m e mode neg = wMag (rSteps 53 (-1022) m e mode neg) (rUnit 53 (-1022) m e) := by unfold rMag; rw [if_neg f2]
  have ex : (e - rUnit 53 (-1022) m e).toNat + (rUnit 53 (-1022) m e + 1074).toNat = (e + 1074).toNat := by clear v2 f4 hr; omega
  rw [hr, v2, f4, Nat.mul_assoc, ← Nat.pow_add, ex]
/-- The whole number that a number is rounded to. -/
def whQ (mode : Int) (x : Nat) : Nat := stepQ (pMant x) (0 - pExp x) mode (decide (9223372036854775808 ≤ x))
theorem wR_nv (x : Nat) (mode : Int) (hx : x < 18446744073709551616) (hf : x % 9223372036854775808 < 9218868437227405312) (h0 : x % 9223372036854775808 ≠ 0) : nv (wR mode (decide (9223372036854775808 ≤ x)) (x % 9223372036854775808)) = whQ mode x * 2 ^ kt := by
  have hk := kt_is
  have hsx := sign_of x hx
  obtain ⟨v1, v2, v3, v4, v5⟩ := parts_val x hf
  obtain ⟨p1, p2, p3, p4, p5, p6⟩ := v5 (fun c => h0 (v4.1 c))
  rw [(whole_val mode _ _ hf).1]
  unfold whQ
  have hsc := stepQ_scale (pMant x) (pExp x) 0 kt mode (decide (9223372036854775808 ≤ x)) (by omega) (by omega)
  have e1 : ((0 : Int) + (kt : Int)).toNat = kt := by omega
  have e2 : (pExp x + (kt : Int)).toNat = (pExp x + 1074).toNat := by omega
  rw [e1, e2, ← p3] at hsc
  rw [hsc]
theorem wR_doc (x : Nat) (mode : Int) (hx : x < 18446744073709551616) (hf : x % 9223372036854775808 < 9218868437227405312) (h0 : x % 9223372036854775808 ≠ 0) : wR mode (decide (9223372036854775808 ≤ x)) (x % 9223372036854775808) = if whQ mode x = 0 then 0 else docR64 (whQ mode x) 0 0 (decide (9223372036854775808 ≤ x)) := by
  have hk := kt_is
  have hv := wR_nv x mode hx hf h0
  obtain ⟨v1, v2, v3, v4, v5⟩ := parts_val x hf
  obtain ⟨p1, p2, p3, p4, p5, p6⟩ := v5 (fun c => h0 (v4.1 c))
  by_cases hQ : whQ mode x = 0
  · rw [if_pos hQ]
    rw [hQ, Nat.zero_mul] at hv
    exact nv_inj (by rw [hv, nv_zero])
  · rw [if_neg hQ, docR64_is _ _ _ _ hQ (by decide) (by decide)]
    apply nv_inj
    rw [hv]
    by_cases hE : 0 ≤ pExp x
    · obtain ⟨n, hn⟩ := Int.eq_ofNat_of_zero_le hE
      have hq : whQ mode x = pMant x * 2 ^ n := by
        unfold whQ stepQ
        have hr : cutR (pMant x) (0 - pExp x) = 0 := by unfold cutR; rw [if_pos (by omega)]
        rw [hr, if_neg (by simp), Nat.add_zero]
        unfold cutQ
        rw [if_pos (by omega), show (-(0 - pExp x)).toNat = n by omega]
      have hs := rMag_scale 53 (-1022) 1023 (pMant x) n (n : Int) 0 (decide (9223372036854775808 ≤ x)) p1
      have e0 : (n : Int) - (n : Int) = 0 := by omega
      rw [e0, ← hq] at hs
      rw [hs, exact53 _ _ _ _ p1 p4 (by omega) (by omega)]
      have e3 : ((n : Int) + 1074).toNat = n + kt := by omega
      rw [e3, hq, Nat.pow_add, Nat.mul_assoc]
    · have hcq : cutQ (pMant x) (0 - pExp x) ≤ pMant x := by unfold cutQ; rw [if_neg (by omega)]; exact Nat.div_le_self _ _
      have h53 : (2 : Nat) ^ 53 = 9007199254740992 := by decide
      have hpm : pMant x < 9007199254740992 := by rw [← h53]; exact Nat.lt_of_lt_of_le (bitLen_hi _) (Nat.pow_le_pow_right (by decide) p4)
      have hst : whQ mode x ≤ 9007199254740992 := by unfold whQ stepQ; split <;> omega
      exact (int_round _ 0 _ hQ hst).2.2.symm
theorem whFl_doc (x : Nat) (hf : x % 9223372036854775808 < 9218868437227405312) (h0 : x % 9223372036854775808 ≠ 0) : whFl x = if decide (cutR (tM64 x) (0 - tE64 x) ≠ 0) = true then 1 else 0 := by
  rw [(steps_same x 0 false hf h0).2]
  unfold whFl
  by_cases hE : 0 ≤ pExp x
  · have hr : cutR (pMant x) (0 - pExp x) = 0 := by unfold cutR; rw [if_pos (by omega)]
    rw [if_pos (Or.inr (Or.inr hE)), hr]
    rfl
  · rw [if_neg (by omega)]
    by_cases hr : cutR (pMant x) (0 - pExp x) = 0
    · rw [if_pos hr, decide_eq_false (by simpa using hr)]; rfl
    · rw [if_neg hr, decide_eq_true hr, if_pos rfl]
/-- The value that Whole's answer has. -/
theorem whole_v (x : Nat) (mode : Int) (hx : x < 18446744073709551616) (hf : x % 9223372036854775808 < 9218868437227405312) (h0 : x % 9223372036854775808 ≠ 0) : sv (signN (decide (9223372036854775808 ≤ x)) (wR mode (decide (9223372036854775808 ≤ x)) (x % 9223372036854775808))) = (if decide (9223372036854775808 ≤ x) = true then -(whQ mode x : Int) else (whQ mode x : Int)) * tI := by
  rw [whole_sv _ _ _ (Nat.le_of_lt hf), wR_nv x mode hx hf h0]
  split
  · rw [Int.natCast_mul, tI_is, Int.neg_mul]
  · rw [Int.natCast_mul, tI_is]
/-- Cut to what a kind holds: of a whole multiple. -/
theorem cl_doc (s : Bool) (Q : Nat) (lo hi T Y : Int) (hT : 0 < T) (hlo : lo ≤ 0) (hhi : 0 ≤ hi) : clI lo hi T ((if s = true then -(Q : Int) else (Q : Int)) * T) = wiV s (if s = true then -(Q : Int) else (Q : Int)) lo hi ∧ clF lo hi T ((if s = true then -(Q : Int) else (Q : Int)) * T) Y = if (if s = true then -(Q : Int) else (Q : Int)) < lo ∨ hi < (if s = true then -(Q : Int) else (Q : Int)) then 8 else Y := by
  obtain ⟨V, hV⟩ : ∃ V, (if s = true then -(Q : Int) else (Q : Int)) = V := ⟨_, rfl⟩
  have hs1 : V < 0 → s = true := by
    intro h
    cases s
    · rw [if_neg (by decide)] at hV; omega
    · rfl
  have hs2 : 0 < V → s = false := by
    intro h
    cases s
    · rfl
    · rw [if_pos rfl] at hV; omega
  rw [hV]
  clear hV
  unfold clI clF wiV
  have c1 : V * T < lo * T ↔ V < lo := Int.mul_lt_mul_right hT
  have c2 : (hi + 1) * T ≤ V * T ↔ hi + 1 ≤ V := Int.mul_le_mul_right hT
  by_cases a : V < lo
  · have n2 : V < lo ∨ hi < V := Or.inl a
    rw [if_pos (c1.2 a), if_pos (c1.2 a), if_pos n2, if_pos n2, if_pos (hs1 (by omega))]
    exact ⟨rfl, rfl⟩
  · rw [if_neg (fun c => a (c1.1 c)), if_neg (fun c => a (c1.1 c))]
    by_cases b : hi < V
    · have n1 : (hi + 1) * T ≤ V * T := c2.2 (by omega)
      have n2 : V < lo ∨ hi < V := Or.inr b
      rw [if_pos n1, if_pos n1, if_pos n2, if_pos n2, hs2 (by omega)]
      exact ⟨rfl, rfl⟩
    · have n1 : ¬ (hi + 1) * T ≤ V * T := fun c => b (by have := c2.1 c; omega)
      have n2 : ¬ (V < lo ∨ hi < V) := by omega
      rw [if_neg n1, if_neg n1, if_neg n2, if_neg n2, Int.mul_ediv_cancel _ (by omega)]
      exact ⟨rfl, rfl⟩
/-- Of an infinity. -/
theorem wR_inf (x : Nat) (mode : Int) (s : Bool) (hi : x % 9223372036854775808 = 9218868437227405312) : wR mode s (x % 9223372036854775808) = 9218868437227405312 := by unfold wR; rw [if_pos hi, hi]
theorem whFl_inf (x : Nat) (hi : x % 9223372036854775808 = 9218868437227405312) : whFl x = 0 := by unfold whFl; rw [if_pos (Or.inl hi)]
theorem wR_nought (x : Nat) (mode : Int) (s : Bool) (hi : x % 9223372036854775808 = 0) : wR mode s (x % 9223372036854775808) = 0 := by rw [hi]; exact wR_zero mode s
theorem whFl_nought (x : Nat) (hi : x % 9223372036854775808 = 0) : whFl x = 0 := by unfold whFl; rw [if_pos (Or.inr (Or.inl hi))]
theorem sv_inf (s : Bool) : sv (signN s 9218868437227405312) = if s = true then -(nv 9218868437227405312 : Int) else (nv 9218868437227405312 : Int) := sv_sign s _ (by decide)
theorem inf_big : 36893488147419103232 * tI ≤ (nv 9218868437227405312 : Int) := by
  have hk := kt_is
  have e1 : wMag 1 65 = 4899916394579099648 := by decide +kernel
  have hbl : bitLen 1 = 1 := by decide
  obtain ⟨_, v2⟩ := good_val 1 65 (by decide) (by decide) (by decide) (by rw [hbl]; decide)
  have ex : ((65 : Int) + 1074).toNat = 65 + kt := by omega
  have e65 : (2 : Nat) ^ 65 = 36893488147419103232 := by decide
  rw [e1, ex, Nat.pow_add, Nat.one_mul, e65] at v2
  have hlt := nv_lt (show 4899916394579099648 < 9218868437227405312 by decide)
  rw [v2] at hlt
  have := cast_tI (36893488147419103232 * 2 ^ kt) 36893488147419103232 36893488147419103232 rfl rfl
  rw [← this]
  exact Int.ofNat_le.2 (Nat.le_of_lt hlt)
theorem cl_inf (s : Bool) (lo hi Y : Int) (hlo : -36893488147419103232 < lo) (hlo2 : lo ≤ 0) (hhi : hi + 1 ≤ 36893488147419103232) : clI lo hi tI (if s = true then -(nv 9218868437227405312 : Int) else (nv 9218868437227405312 : Int)) = (if s = true then lo else hi) ∧ clF lo hi tI (if s = true then -(nv 9218868437227405312 : Int) else (nv 9218868437227405312 : Int)) Y = 8 := by
  have hb := inf_big
  obtain ⟨I, hI⟩ : ∃ I, (nv 9218868437227405312 : Int) = I := ⟨_, rfl⟩
  rw [hI] at hb ⊢
  have tp := tI_pos
  obtain ⟨T, hT⟩ : ∃ T, tI = T := ⟨_, rfl⟩
  rw [hT] at hb tp ⊢
  clear hT hI
  have h1 : (hi + 1) * T ≤ 36893488147419103232 * T := Int.mul_le_mul_of_nonneg_right hhi (by omega)
  have h2 : -(36893488147419103232 * T) < lo * T := by rw [← Int.neg_mul]; exact Int.mul_lt_mul_of_pos_right hlo tp
  have h3 : lo * T ≤ 0 := by have := Int.mul_le_mul_of_nonneg_right hlo2 (show 0 ≤ T by omega); omega
  have h4 : 0 < 36893488147419103232 * T := by omega
  unfold clI clF
  cases s
  · rw [show (if false = true then -I else I) = I from rfl, show (if false = true then lo else hi) = hi from rfl]
    have n1 : ¬ I < lo * T := by omega
    have n2 : (hi + 1) * T ≤ I := by omega
    rw [if_neg n1, if_neg n1, if_pos n2, if_pos n2]
    exact ⟨rfl, rfl⟩
  · rw [show (if true = true then -I else I) = -I from rfl, show (if true = true then lo else hi) = lo from rfl]
    have n1 : -I < lo * T := by omega
    rw [if_pos n1, if_pos n1]
    exact ⟨rfl, rfl⟩
theorem cl_zero (s : Bool) (lo hi T Y : Int) (hT : 0 < T) (hlo : lo ≤ 0) (hhi : 0 ≤ hi) : clI lo hi T (sv (signN s 0)) = 0 ∧ clF lo hi T (sv (signN s 0)) Y = Y := by
  have hz : sv (signN s 0) = 0 := by rw [sv_sign s 0 (by decide), nv_zero]; cases s <;> rfl
  have h1 : lo * T ≤ 0 := by have := Int.mul_le_mul_of_nonneg_right hlo (show 0 ≤ T by omega); omega
  have h2 : 0 < (hi + 1) * T := Int.mul_pos (by omega) hT
  rw [hz]
  unfold clI clF
  rw [if_neg (by omega), if_neg (by omega), if_neg (by omega), if_neg (by omega), Int.zero_ediv]
  exact ⟨rfl, rfl⟩
end Go.Proofs.YtpgcelbgmpfliaaGreatDoor

namespace Go.Proofs.YtpgcelbgmpfliaaGreatDoor
open Go.RowKit Go.IntWalk

theorem scells64 {w W : World} {T T2 : TypeId} {a b c d e f g h : Value} (hb : Below (w.heap.size + 2) ((w.alloc (.cells #[a, b, c, d] T)).alloc (.cells #[e, f, g, h] T2)) W) : (W.cell? ⟨w.heap.size, 0, none⟩ = some a ∧ W.cell? ⟨w.heap.size, 1, none⟩ = some b ∧ W.cell? ⟨w.heap.size, 2, none⟩ = some c ∧ W.cell? ⟨w.heap.size, 3, none⟩ = some d) ∧ (W.cell? ⟨w.heap.size + 1, 0, none⟩ = some e ∧ W.cell? ⟨w.heap.size + 1, 1, none⟩ = some f ∧ W.cell? ⟨w.heap.size + 1, 2, none⟩ = some g ∧ W.cell? ⟨w.heap.size + 1, 3, none⟩ = some h) := by
  refine ⟨⟨?_, ?_, ?_, ?_⟩, ⟨?_, ?_, ?_, ?_⟩⟩
  all_goals first
    | (rw [hb.cell (p := ⟨w.heap.size, _, none⟩) (by show w.heap.size < _; omega)]; simp [go_sem])
    | (rw [hb.cell (p := ⟨w.heap.size + 1, _, none⟩) (by show w.heap.size + 1 < _; omega)]; simp [go_sem])
theorem al2 {w W : World} {o1 o2 : Obj} (h : Below (w.heap.size + 2) ((w.alloc o1).alloc o2) W) : Below w.heap.size w W := (al_below w o1).trans (((al_below (w.alloc o1) o2).mono (by simp)).trans (h.mono (by omega)))
set_option maxHeartbeats 1000000 in
theorem same64_nan (neg : Bool) (z : Option Addr) (e mode : Int) (w : World) :
    Calls Tryz.prog 56 #[.agg #[.int .i64 53, .int .i64 (-1022), .int .i64 1023, .int .i64 11], .agg #[.int .i64 2, .bool neg, .pointer z, .int .i64 e], .int .i64 mode] w fun r w' => r = .returned (.tuple #[.int .u64 9221120237041090561, .int .i64 0]) ∧ Below w.heap.size w w' := by
  go_enter Tryz.func56, Tryz.ntmps56
  go_wp2_with fail
  refine (None64_any _).mono ?_
  rintro r w1 ⟨rfl, hb⟩
  go_wp2
  go_ret2
  exact ⟨rfl, bl_then (bl_al (bl_al (Below.refl _ _) _) _) hb⟩
set_option maxHeartbeats 1000000 in
theorem same64_inf (neg : Bool) (z : Option Addr) (e mode : Int) (w : World) :
    Calls Tryz.prog 56 #[.agg #[.int .i64 53, .int .i64 (-1022), .int .i64 1023, .int .i64 11], .agg #[.int .i64 1, .bool neg, .pointer z, .int .i64 e], .int .i64 mode] w fun r w' => r = .returned (.tuple #[.int .u64 (signN neg 9218868437227405312), .int .i64 0]) ∧ Below w.heap.size w w' := by
  go_enter Tryz.func56, Tryz.ntmps56
  go_wp2_with fail
  refine (Infinity64_any neg _).mono ?_
  rintro r w1 ⟨rfl, hb⟩
  go_wp2
  go_ret2
  exact ⟨rfl, bl_then (bl_al (bl_al (Below.refl _ _) _) _) hb⟩
set_option maxHeartbeats 1000000 in
theorem same64_fin (neg : Bool) (z m bd : Nat) (e mode : Int) (w : World) (hz : NumAt w z m bd) (hb : bd ≤ 30000) (he1 : -100000 ≤ e) (he2 : e ≤ 100000) :
    Calls Tryz.prog 56 #[.agg #[.int .i64 53, .int .i64 (-1022), .int .i64 1023, .int .i64 11], .agg #[.int .i64 0, .bool neg, .pointer (some ⟨z, 0, none⟩), .int .i64 e], .int .i64 mode] w fun r w' => r = .returned (.tuple #[.int .u64 (if m = 0 then signN neg 0 else signN neg (docR64 m e mode neg)), .int .i64 (if m = 0 then 0 else rFlag 53 (-1022) 1023 m e mode neg)]) ∧ Below w.heap.size w w' := by
  have HZ := hid hz
  have HI : Hid (∀ W, NumAt W z m bd → Calls Tryz.prog 55 #[.agg #[.int .i64 0, .bool neg, .pointer (some ⟨z, 0, none⟩), .int .i64 e]] W fun r w' => r = .returned (.bool (decide (m = 0))) ∧ Below W.heap.size W w') := fun W h => IsZero_any 0 neg z m bd e W h
  have HF : Hid (Below (w.heap.size + 2) ((w.alloc (.cells #[.int .i64 53, .int .i64 (-1022), .int .i64 1023, .int .i64 11] 66)).alloc (.cells #[.int .i64 0, .bool neg, .pointer (some ⟨z, 0, none⟩), .int .i64 e] 88)) ((w.alloc (.cells #[.int .i64 53, .int .i64 (-1022), .int .i64 1023, .int .i64 11] 66)).alloc (.cells #[.int .i64 0, .bool neg, .pointer (some ⟨z, 0, none⟩), .int .i64 e] 88))) := Below.refl _ _
  by_cases h0 : m = 0
  · rw [if_pos h0, if_pos h0]
    rw [decide_eq_true h0] at HI
    clear h0 hz hb he1 he2
    go_enter Tryz.func56, Tryz.ntmps56
    go_wp2_with fail
    refine (HI.out _ ((HZ.out.al _).al _)).mono ?_
    rintro r w1 ⟨rfl, hb⟩
    have HF1 := hid (fC HF.out hb (by simp))
    obtain ⟨⟨c0, c1, c2, c3⟩, ⟨d0, d1, d2, d3⟩⟩ := scells64 HF1.out
    clear hb
    go_wp2_with fail
    refine (Nought64_any neg _).mono ?_
    rintro r w2 ⟨rfl, hb2⟩
    go_wp2
    go_ret2
    exact ⟨rfl, bl_then (al2 HF1.out) hb2⟩
  · rw [if_neg h0, if_neg h0]
    rw [decide_eq_false h0] at HI
    have HR : Hid (∀ W, NumAt W z m bd → Calls Tryz.prog 60 #[.agg #[.int .i64 53, .int .i64 (-1022), .int .i64 1023, .int .i64 11], .bool neg, .pointer (some ⟨z, 0, none⟩), .int .i64 e, .bool false, .int .i64 mode] W fun r w' => r = .returned (.tuple #[.int .u64 (signN neg (docR64 m e mode neg)), .int .i64 (rFlag 53 (-1022) 1023 m e mode neg)]) ∧ Below W.heap.size W w') := fun W h => Round64_any neg z m bd e mode W h h0 hb he1 he2
    obtain ⟨V, hV⟩ : ∃ V, Hid (signN neg (docR64 m e mode neg) = V) := ⟨_, rfl⟩
    obtain ⟨G, hG⟩ : ∃ G, Hid (rFlag 53 (-1022) 1023 m e mode neg = G) := ⟨_, rfl⟩
    rw [hV.out, hG.out] at HR ⊢
    clear h0 hz hb he1 he2
    go_enter Tryz.func56, Tryz.ntmps56
    go_wp2_with fail
    refine (HI.out _ ((HZ.out.al _).al _)).mono ?_
    rintro r w1 ⟨rfl, hb⟩
    have HF1 := hid (fC HF.out hb (by simp))
    have HZ1 := hid (((HZ.out.al _).al _).below hb)
    obtain ⟨⟨c0, c1, c2, c3⟩, ⟨d0, d1, d2, d3⟩⟩ := scells64 HF1.out
    clear hb
    go_wp2_with fail
    refine (HR.out _ HZ1.out).mono ?_
    rintro r w2 ⟨rfl, hb2⟩
    go_wp2
    go_ret2
    exact ⟨rfl, bl_then (al2 HF1.out) hb2⟩
end Go.Proofs.YtpgcelbgmpfliaaGreatDoor
