
/- What convert's Int does with what Whole answers: the other widths. -/
import Derived.Test.YtpgcelbgmpfliaaGreatDoorV34
import Derived.Test.YtpgcelbgmpfliaaGreatDoorV16
namespace Go.Proofs.YtpgcelbgmpfliaaGreatDoor
open Go.RowKit Go.IntWalk

set_option maxHeartbeats 1000000 in
theorem rwhole_pos (kind : Int) (neg : Bool) (z m n : Nat) (mode : Int) (w : World) (hz : NumAt w z m 2) (hn : n ≤ 2000) :
    Calls Tryz.prog 57 #[.agg #[.int .i64 kind, .bool neg, .pointer (some ⟨z, 0, none⟩), .int .i64 n], .int .i64 mode] w fun r w' => ∃ q, r = .returned (.tuple #[.pointer (some ⟨q, 0, none⟩), .bool false]) ∧ NumAt w' q ((m * 2 ^ n : Nat) : Int) 80 ∧ w.heap.size ≤ q ∧ Below w.heap.size w w' := by
  have hw : IntKind.u64.wrap (n : Int) = (n : Int) := by rw [IntKind.wrap_u64]; omega
  have h0 : (0 : Int) ≤ (n : Int) := by omega
  have HN := hid hn
  have HZ := hid hz
  clear hn hz
  go_enter Tryz.func57, Tryz.ntmps57
  go_wp2_with fail
  refine (NLsh _ z m n 2 _ (fresh_zok' _ _ (by simp)) ((HZ.out.al _).al _) (by decide) (by have := HN.out; omega)).mono ?_
  rintro r w1 ⟨rfl, h1, b1⟩
  have H1 : Hid (NumAt w1 (w.heap.size + 1) ((m * 2 ^ n : Nat) : Int) 80) := by
    have e : ((m * 2 ^ n : Nat) : Int) = (m : Int) * 2 ^ n := by rw [Int.natCast_mul, Int.natCast_pow]; rfl
    rw [e]
    have := h1.more (b2 := 80) (by have := HN.out; omega)
    exact this
  have B1 : Hid (Below w.heap.size w w1) := (bl_al (bl_al (Below.refl _ _) _) _).trans (b1.below (by simp; omega) (by omega))
  clear h1 b1
  go_wp2
  go_ret2
  exact ⟨_, rfl, H1.out, by omega, B1.out⟩
set_option maxHeartbeats 1000000 in
theorem rwhole_neg (kind : Int) (neg : Bool) (z m n : Nat) (mode : Int) (w : World) (hz : NumAt w z m 2) (hn1 : 1 ≤ n) (hn : n ≤ 2000) :
    Calls Tryz.prog 57 #[.agg #[.int .i64 kind, .bool neg, .pointer (some ⟨z, 0, none⟩), .int .i64 (-(n : Int))], .int .i64 mode] w fun r w' => ∃ q, r = .returned (.tuple #[.pointer (some ⟨q, 0, none⟩), .bool (decide (restN m n ≠ 0))]) ∧ NumAt w' q ((m / 2 ^ n + (if goesOf neg (decide (m / 2 ^ n % 2 = 1)) (restN m n) mode = true then 1 else 0) : Nat) : Int) 80 ∧ w.heap.size ≤ q ∧ Below w.heap.size w w' := by
  have hw : IntKind.i64.wrap (- -(n : Int)) = (n : Int) := by rw [IntWalk.i64_in _ (by omega)]; omega
  have hw2 : (- -(n : Int)) = (n : Int) := by omega
  have hw3 : IntKind.i64.wrap (n : Int) = (n : Int) := by rw [IntWalk.i64_in _ (by omega)]
  have h0 : ¬ (0 : Int) ≤ -(n : Int) := by omega
  have hR : restN m n ≤ 3 := by unfold restN; split <;> (try split) <;> (try split) <;> omega
  have HC := hid (fun (W : World) (h : NumAt W z m 2) => rcut_any z m n 2 W h (by decide) hn1 (by omega))
  rw [cutC_rest m n hn1] at HC
  obtain ⟨R, hRR⟩ : ∃ R, Hid (restN m n = R) := ⟨_, rfl⟩
  rw [hRR.out] at HC hR ⊢
  have HG := hid (fun (W : World) q (h : NumAt W q ((m / 2 ^ n : Nat) : Int) 2) => goesUp_any neg q (m / 2 ^ n) 2 R mode W h (by decide) hR)
  obtain ⟨G, hG⟩ : ∃ G, Hid (goesOf neg (decide (m / 2 ^ n % 2 = 1)) R mode = G) := ⟨_, rfl⟩
  obtain ⟨Q, hQ⟩ : ∃ Q, Hid (m / 2 ^ n = Q) := ⟨_, rfl⟩
  rw [hG.out] at HG ⊢
  rw [hQ.out] at HC HG ⊢
  have hgt : decide (-2 < (R : Int) - 2) = decide (R ≠ 0) := by apply decide_eq_decide.2; omega
  obtain ⟨B, hB⟩ : ∃ B, Hid (decide (R ≠ 0) = B) := ⟨_, rfl⟩
  rw [hB.out] at hgt ⊢
  obtain ⟨C, hCd⟩ : ∃ C : Int, Hid ((R : Int) - 2 = C) := ⟨_, rfl⟩
  rw [hCd.out] at HC HG hgt
  have HZ := hid hz
  clear hz hn hn1 hR
  go_enter Tryz.func57, Tryz.ntmps57
  go_wp2_with fail
  refine (HC.out _ (HZ.out.al _)).mono ?_
  rintro r w1 ⟨q, rfl, h1, hq, b1⟩
  have hcl := fcells (fB b1)
  obtain ⟨k0, k1, k2, k3⟩ := hcl
  have H1 := hid h1
  have HF1 := hid (fB b1)
  have hq1 : w.heap.size + 1 ≤ q := by simpa using hq
  clear h1 b1 hq
  go_wp2_with fail
  refine (HG.out _ _ H1.out).mono ?_
  rintro r w2 ⟨rfl, b2⟩
  have H2 := hid (H1.out.below b2)
  have HF2 : Hid (Below (w.heap.size + 1) (w.alloc (.cells #[.int .i64 kind, .bool neg, .pointer (some ⟨z, 0, none⟩), .int .i64 (-(n : Int))] 88)) w2) := fC HF1.out b2 (by have := HF1.out.size; simp at this; omega)
  have hql := H2.out.lt
  clear b2
  cases G
  · go_wp2
    go_ret2
    exact ⟨_, rfl, by simpa using H2.out.more (by decide), by omega, bl_B HF2.out⟩
  · go_wp2_with fail
    refine (NNew 1 _ (by decide)).mono ?_
    rintro r w3 ⟨rfl, h3, b3⟩
    have H3 := hid h3
    have H2' := hid (H2.out.below b3)
    have HF3 : Hid (Below (w.heap.size + 1) (w.alloc (.cells #[.int .i64 kind, .bool neg, .pointer (some ⟨z, 0, none⟩), .int .i64 (-(n : Int))] 88)) w3) := fC HF2.out b3 (by have := HF2.out.size; simp at this; omega)
    clear h3 b3
    go_wp2_with fail
    refine (NAdd q q _ _ _ 2 2 _ H2'.out.zok (Or.inl ⟨by omega, by omega⟩) H2'.out H3.out (by decide) (by decide)).mono ?_
    rintro r w4 ⟨rfl, h4, b4⟩
    have H4 := hid h4
    have HF4 : Hid (Below (w.heap.size + 1) (w.alloc (.cells #[.int .i64 kind, .bool neg, .pointer (some ⟨z, 0, none⟩), .int .i64 (-(n : Int))] 88)) w4) := HF3.out.trans (b4.below (by have := HF3.out.size; simp at this; omega) hq1)
    clear h4 b4
    go_wp2
    go_ret2
    exact ⟨_, rfl, by simpa using H4.out.more (by decide), by omega, bl_B HF4.out⟩
end Go.Proofs.YtpgcelbgmpfliaaGreatDoor

namespace Go.Proofs.YtpgcelbgmpfliaaGreatDoor
open Go.RowKit Go.IntWalk

theorem rwhole_any (kind : Int) (neg : Bool) (z m : Nat) (E mode : Int) (w : World) (hz : NumAt w z m 2) (h1 : -2000 ≤ E) (h2 : E ≤ 2000) :
    Calls Tryz.prog 57 #[.agg #[.int .i64 kind, .bool neg, .pointer (some ⟨z, 0, none⟩), .int .i64 E], .int .i64 mode] w fun r w' => ∃ q, r = .returned (.tuple #[.pointer (some ⟨q, 0, none⟩), .bool (decide (cutR m (0 - E) ≠ 0))]) ∧ NumAt w' q (stepQ m (0 - E) mode neg : Int) 80 ∧ w.heap.size ≤ q ∧ Below w.heap.size w w' := by
  by_cases hE : 0 ≤ E
  · obtain ⟨n, rfl⟩ := Int.eq_ofNat_of_zero_le hE
    have hq : cutQ m (0 - (n : Int)) = m * 2 ^ n := by unfold cutQ; rw [if_pos (by omega), show (-(0 - (n : Int))).toNat = n by omega]
    have hr : cutR m (0 - (n : Int)) = 0 := by unfold cutR; rw [if_pos (by omega)]
    have hs : stepQ m (0 - (n : Int)) mode neg = m * 2 ^ n := by unfold stepQ; rw [hq, hr, if_neg (by simp), Nat.add_zero]
    rw [hs, hr, decide_eq_false (by simp)]
    exact rwhole_pos kind neg z m n mode w hz (by omega)
  · obtain ⟨n, hn⟩ := Int.eq_ofNat_of_zero_le (show 0 ≤ -E by omega)
    obtain rfl : E = -(n : Int) := by omega
    have e : (0 : Int) - -(n : Int) = (n : Int) := by omega
    have hq : cutQ m (n : Int) = m / 2 ^ n := by unfold cutQ; rw [if_neg (by omega), Int.toNat_natCast]
    have hr : cutR m (n : Int) = restN m n := by unfold cutR; rw [if_neg (by omega), Int.toNat_natCast]
    rw [e, stepQ_goes, hq, hr]
    exact rwhole_neg kind neg z m n mode w hz (by omega) (by omega)
/-- The steps of a number, by the document's parts and by ours. -/
theorem steps_same (x : Nat) (mode : Int) (s : Bool) (hf : x % 9223372036854775808 < 9218868437227405312) (h0 : x % 9223372036854775808 ≠ 0) : stepQ (tM64 x) (0 - tE64 x) mode s = stepQ (pMant x) (0 - pExp x) mode s ∧ cutR (tM64 x) (0 - tE64 x) = cutR (pMant x) (0 - pExp x) := by
  obtain ⟨k, e1, e2, _⟩ := take64 x hf h0
  have e3 : 0 - tE64 x = 0 - pExp x + (k : Int) := by omega
  rw [e1, e3, stepQ_scale2, cutR_scale]
  exact ⟨rfl, rfl⟩
end Go.Proofs.YtpgcelbgmpfliaaGreatDoor

namespace Go.Proofs.YtpgcelbgmpfliaaGreatDoor
open Go.RowKit Go.IntWalk

theorem least16_is : floatOfInt .f64 (-32768) = 13898108450065350656 := by decide +kernel
theorem least16_neg : Op.unary .neg (.float .f64 13898108450065350656) = pure (.float .f64 4674736413210574848) := rfl
set_option maxHeartbeats 400000 in
theorem Int16_in (x X : Nat) (mode Y n : Int) (w : World) (hX : X < 18446744073709551616) (hn : X % 9223372036854775808 ≤ 9218868437227405312)
    (h1 : (FloatKind.f64.format.order X 13898108450065350656 == some .lt) = false) (h2 : (FloatKind.f64.format.order X 4674736413210574848 == some .gt || FloatKind.f64.format.order X 4674736413210574848 == some .eq) = false) (hc : floatToIntVal .f64 X .i64 = some n)
    (h : Calls Tryz.prog 15 #[.float .f64 x, .int .i64 mode] w fun r w' => r = .returned (.tuple #[.float .f64 X, .int .i64 Y, .int .i64 0]) ∧ Below w.heap.size w w') :
    Calls Tryz.prog 18 #[.float .f64 x, .int .i64 16, .int .i64 mode] w fun r w' => r = .returned (.tuple #[.int .i64 n, .int .i64 Y, .int .i64 0]) ∧ Below w.heap.size w w' := by
  have H := hid (wholeOf_core x X 16 mode Y w (by decide) h)
  have HI := hid (fun (w : World) => isnan_any X w hX)
  have hnd : decide (9218868437227405312 < X % 9223372036854775808) = false := decide_eq_false (by omega)
  rw [hnd] at HI
  have hfl := least16_is
  have hfn := least16_neg
  have hcr := toint_run X n hc
  clear h hc hX hn hnd
  go_enter Tryz.func18, Tryz.ntmps18
  go_wp2_with fail
  refine H.out.mono ?_
  rintro r w1 ⟨rfl, hb⟩
  go_wp2_with fail
  refine (HI.out _).mono ?_
  rintro r w2 ⟨rfl, rfl⟩
  go_wp2
  go_ret3
  exact ⟨rfl, hb⟩
set_option maxHeartbeats 400000 in
theorem Int16_high (x X : Nat) (mode Y : Int) (w : World) (hX : X < 18446744073709551616) (hn : X % 9223372036854775808 ≤ 9218868437227405312)
    (h1 : (FloatKind.f64.format.order X 13898108450065350656 == some .lt) = false) (h2 : (FloatKind.f64.format.order X 4674736413210574848 == some .gt || FloatKind.f64.format.order X 4674736413210574848 == some .eq) = true)
    (h : Calls Tryz.prog 15 #[.float .f64 x, .int .i64 mode] w fun r w' => r = .returned (.tuple #[.float .f64 X, .int .i64 Y, .int .i64 0]) ∧ Below w.heap.size w w') :
    Calls Tryz.prog 18 #[.float .f64 x, .int .i64 16, .int .i64 mode] w fun r w' => r = .returned (.tuple #[.int .i64 32767, .int .i64 8, .int .i64 0]) ∧ Below w.heap.size w w' := by
  have H := hid (wholeOf_core x X 16 mode Y w (by decide) h)
  have HI := hid (fun (w : World) => isnan_any X w hX)
  have hnd : decide (9218868437227405312 < X % 9223372036854775808) = false := decide_eq_false (by omega)
  rw [hnd] at HI
  have hfl := least16_is
  have hfn := least16_neg
  clear h hX hn hnd
  go_enter Tryz.func18, Tryz.ntmps18
  go_wp2_with fail
  refine H.out.mono ?_
  rintro r w1 ⟨rfl, hb⟩
  go_wp2_with fail
  refine (HI.out _).mono ?_
  rintro r w2 ⟨rfl, rfl⟩
  go_wp2
  go_ret3
  exact ⟨rfl, hb⟩
theorem least32_is : floatOfInt .f64 (-2147483648) = 13970166044103278592 := by decide +kernel
theorem least32_neg : Op.unary .neg (.float .f64 13970166044103278592) = pure (.float .f64 4746794007248502784) := rfl
set_option maxHeartbeats 400000 in
theorem Int32_in (x X : Nat) (mode Y n : Int) (w : World) (hX : X < 18446744073709551616) (hn : X % 9223372036854775808 ≤ 9218868437227405312)
    (h1 : (FloatKind.f64.format.order X 13970166044103278592 == some .lt) = false) (h2 : (FloatKind.f64.format.order X 4746794007248502784 == some .gt || FloatKind.f64.format.order X 4746794007248502784 == some .eq) = false) (hc : floatToIntVal .f64 X .i64 = some n)
    (h : Calls Tryz.prog 15 #[.float .f64 x, .int .i64 mode] w fun r w' => r = .returned (.tuple #[.float .f64 X, .int .i64 Y, .int .i64 0]) ∧ Below w.heap.size w w') :
    Calls Tryz.prog 18 #[.float .f64 x, .int .i64 32, .int .i64 mode] w fun r w' => r = .returned (.tuple #[.int .i64 n, .int .i64 Y, .int .i64 0]) ∧ Below w.heap.size w w' := by
  have H := hid (wholeOf_core x X 32 mode Y w (by decide) h)
  have HI := hid (fun (w : World) => isnan_any X w hX)
  have hnd : decide (9218868437227405312 < X % 9223372036854775808) = false := decide_eq_false (by omega)
  rw [hnd] at HI
  have hfl := least32_is
  have hfn := least32_neg
  have hcr := toint_run X n hc
  clear h hc hX hn hnd
  go_enter Tryz.func18, Tryz.ntmps18
  go_wp2_with fail
  refine H.out.mono ?_
  rintro r w1 ⟨rfl, hb⟩
  go_wp2_with fail
  refine (HI.out _).mono ?_
  rintro r w2 ⟨rfl, rfl⟩
  go_wp2
  go_ret3
  exact ⟨rfl, hb⟩
set_option maxHeartbeats 400000 in
theorem Int32_high (x X : Nat) (mode Y : Int) (w : World) (hX : X < 18446744073709551616) (hn : X % 9223372036854775808 ≤ 9218868437227405312)
    (h1 : (FloatKind.f64.format.order X 13970166044103278592 == some .lt) = false) (h2 : (FloatKind.f64.format.order X 4746794007248502784 == some .gt || FloatKind.f64.format.order X 4746794007248502784 == some .eq) = true)
    (h : Calls Tryz.prog 15 #[.float .f64 x, .int .i64 mode] w fun r w' => r = .returned (.tuple #[.float .f64 X, .int .i64 Y, .int .i64 0]) ∧ Below w.heap.size w w') :
    Calls Tryz.prog 18 #[.float .f64 x, .int .i64 32, .int .i64 mode] w fun r w' => r = .returned (.tuple #[.int .i64 2147483647, .int .i64 8, .int .i64 0]) ∧ Below w.heap.size w w' := by
  have H := hid (wholeOf_core x X 32 mode Y w (by decide) h)
  have HI := hid (fun (w : World) => isnan_any X w hX)
  have hnd : decide (9218868437227405312 < X % 9223372036854775808) = false := decide_eq_false (by omega)
  rw [hnd] at HI
  have hfl := least32_is
  have hfn := least32_neg
  clear h hX hn hnd
  go_enter Tryz.func18, Tryz.ntmps18
  go_wp2_with fail
  refine H.out.mono ?_
  rintro r w1 ⟨rfl, hb⟩
  go_wp2_with fail
  refine (HI.out _).mono ?_
  rintro r w2 ⟨rfl, rfl⟩
  go_wp2
  go_ret3
  exact ⟨rfl, hb⟩
end Go.Proofs.YtpgcelbgmpfliaaGreatDoor
