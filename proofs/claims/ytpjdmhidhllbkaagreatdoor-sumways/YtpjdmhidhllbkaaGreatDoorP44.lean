
/- sum's allMinus, numberFor and Exact of finite numbers. -/
import Derived.Test.YtpjdmhidhllbkaaGreatDoorP43
import Derived.Test.YtpjdmhidhllbkaaGreatDoorP33
import Derived.Test.YtpjdmhidhllbkaaGreatDoorP41
import Derived.Deep.OwnRows
import Derived.Test.YtpjdmhidhllbkaaGreatDoorP4
import Derived.Deep.RegionHeld3
import Derived.Test.YtpjdmhidhllbkaaGreatDoorP42
namespace Go.Proofs.YtpjdmhidhllbkaaGreatDoor
open Go.RowKit Go.IntWalk

/-- There are numbers, and all are -0. -/
def minusB (xs : List Nat) : Bool := !xs.isEmpty && xs.all fun x => x == 9223372036854775808
def exactN (xs : List Nat) (n : Nat) : Nat := if minusB xs = true then 9223372036854775808 else rndI (sumSv xs n) (-1074)
theorem ListAt.flt {w : World} {sa : Option Addr} {n cap : Nat} {xs : List Nat} (h : ListAt w sa n cap xs) : FltAt w.heap.size w (.slice sa n cap) xs := by
  obtain ⟨rfl, ⟨rfl, h1, rfl⟩ | ⟨h1, b, rfl, h2⟩⟩ := h
  · exact .inl ⟨by rw [h1], List.length_eq_zero_iff.1 h1⟩
  · exact .inr ⟨b, 0, cap, rfl, h2.1, h2.2⟩
theorem sign_wS (x : Nat) (hx : x < 18446744073709551616) : decide (wrap64 (x : Int) < 0) = decide (9223372036854775808 ≤ x) := by
  have e : wrap64 (x : Int) < 0 ↔ 9223372036854775808 ≤ x := by unfold wrap64; omega
  exact decide_eq_decide.2 e
theorem ret_boolS {a b : Bool} (h : a = b) : Ending.returned (.bool a) = .returned (.bool b) := by rw [h]
set_option maxHeartbeats 400000 in
theorem signbit_S (x : Nat) (w : World) (hx : x < 18446744073709551616) :
    Calls Tryz.prog 71 #[.float .f64 x] w fun r w' => r = .returned (.bool (decide (9223372036854775808 ≤ x))) ∧ w' = w := by
  have h1 := f64bits
  go_enter Tryz.func71, Tryz.ntmps71
  go_wp2
  go_ret
  exact ⟨ret_boolS (sign_wS x hx), rfl⟩
theorem order_zeroS (x : Nat) (hx : x < 18446744073709551616) : (FloatKind.f64.format.order x 0 != some .eq) = !decide (x % 9223372036854775808 = 0) := by
  rw [← order_zero x hx]
  rfl
theorem minus_stop (xs : List Nat) (k : Nat) (h : k < xs.length) (hne : xs.getD k 0 ≠ 9223372036854775808) : minusB xs = false := by
  unfold minusB
  cases c : (xs.all fun x => x == 9223372036854775808) with
  | false => simp
  | true =>
    have := List.all_eq_true.1 c _ (mem_get xs k h)
    exact absurd (eq_of_beq this) hne
theorem minus_all (xs : List Nat) (h : ∀ j, j < xs.length → xs.getD j 0 = 9223372036854775808) : minusB xs = decide (0 < xs.length) := by
  unfold minusB
  have : (xs.all fun x => x == 9223372036854775808) = true := by
    rw [List.all_eq_true]
    intro x hx
    obtain ⟨i, hi, rfl⟩ := List.getElem_of_mem hx
    have := h i hi
    rw [List.getD_eq_getElem?_getD, List.getElem?_eq_getElem hi] at this
    simpa using this
  rw [this]
  cases xs <;> simp
set_option maxHeartbeats 2000000 in
theorem allMinus_some (b off cap : Nat) (xs : List Nat) (hx : ∀ x ∈ xs, x < 18446744073709551616) (hreach : xs.length ≤ 17592186043904) (w : World) (hc : ∀ j, j < xs.length → w.cell? ⟨b, off + j, none⟩ = some (.float .f64 (xs.getD j 0))) :
    Calls Tryz.prog 83 #[.slice (some ⟨b, off, none⟩) xs.length cap] w fun e W' => e = .returned (.bool (minusB xs)) ∧ W' = w := by
  have HX := hid hx
  have HC := hid hc
  have HM := hid (minus_all xs)
  have HST := hid (minus_stop xs)
  clear hx hc
  obtain ⟨N, hN⟩ : ∃ N, Hid (xs.length = N) := ⟨_, rfl⟩
  rw [hN.out] at hreach HC HM HST ⊢
  obtain ⟨M, hM⟩ : ∃ M, Hid (minusB xs = M) := ⟨_, rfl⟩
  rw [hM.out] at HM HST ⊢
  go_enter Tryz.func83, Tryz.ntmps83
  go_wp2_with fail
  go_loopw [7] (fun i wr => ∃ k : Nat, k ≤ N ∧ i = .int .i64 k ∧ Hid (∀ j, j < k → xs.getD j 0 = 9223372036854775808) ∧ wr = w) (fun i _ => N - (intOf i).toNat)
  case atStart => exact ⟨0, Nat.zero_le _, rfl, fun j hj => absurd hj (Nat.not_lt_zero j), rfl⟩
  case round =>
    obtain ⟨k, hk, rfl, HZ, rfl⟩ := hrel
    by_cases hlt : k < N
    · have hck := HC.out k hlt
      have HXK : Hid (xs.getD k 0 < 18446744073709551616) := HX.out _ (mem_get xs k (by rw [hN.out]; exact hlt))
      have HSK := hid (HST.out k hlt)
      obtain ⟨x, hx⟩ : ∃ x, Hid (xs.getD k 0 = x) := ⟨_, rfl⟩
      rw [hx.out] at hck HXK HSK
      have hkI : (k : Int) < (N : Int) := by omega
      have hk0 : (0 : Int) ≤ (k : Int) := by omega
      have ho := order_zeroS x HXK.out
      have HSB := hid (fun (V : World) => signbit_S x V HXK.out)
      by_cases hz : x % 9223372036854775808 = 0
      · rw [decide_eq_true hz] at ho
        by_cases hs : 9223372036854775808 ≤ x
        · rw [decide_eq_true hs] at HSB
          have HE : Hid (x = 9223372036854775808) := by have := HXK.out; show x = _; omega
          clear hz hs
          go_wp2_with fail
          refine (HSB.out _).mono ?_
          rintro r w1 ⟨rfl, rfl⟩
          go_wp2
          refine ⟨⟨k + 1, by omega, by go_num, fun j hj => ?_, trivial⟩, ?_⟩
          · by_cases hjk : j < k
            · exact HZ.out j hjk
            · rw [show j = k by omega, hx.out]; exact HE.out
          · simp [intOf]; omega
        · rw [decide_eq_false hs] at HSB
          have HE : Hid (M = false) := HSK.out (by omega)
          clear hz hs
          go_wp2_with fail
          refine (HSB.out _).mono ?_
          rintro r w1 ⟨rfl, rfl⟩
          go_wp2
          go_ret
          exact ⟨ret_boolS HE.out.symm, rfl⟩
      · rw [decide_eq_false hz] at ho
        have HE : Hid (M = false) := HSK.out (by omega)
        clear hz
        go_wp2
        go_ret
        exact ⟨ret_boolS HE.out.symm, rfl⟩
    · obtain rfl : k = N := by omega
      have HE := HM.out HZ.out
      go_wp2
      go_ret
      exact ⟨ret_boolS (by rw [HE]), rfl⟩
set_option maxHeartbeats 1000000 in
theorem allMinus_nil (w : World) : Calls Tryz.prog 83 #[.slice none 0 0] w fun e W' => e = .returned (.bool false) ∧ W' = w := by
  go_enter Tryz.func83, Tryz.ntmps83
  go_wp2_with fail
  go_loopw [7] (fun i wr => i = .int .i64 0 ∧ wr = w) (fun _ _ => 0)
  case atStart => exact ⟨rfl, rfl⟩
  case round =>
    obtain ⟨rfl, rfl⟩ := hrel
    go_wp2
    go_ret
    exact ⟨rfl, rfl⟩
theorem allMinus_any (a : Option Addr) (len cap : Nat) (xs : List Nat) (hx : ∀ x ∈ xs, x < 18446744073709551616) (hreach : xs.length ≤ 17592186043904) (w : World) (hI : FltAt w.heap.size w (.slice a len cap) xs) :
    Calls Tryz.prog 83 #[.slice a len cap] w fun e W' => e = .returned (.bool (minusB xs)) ∧ W' = w := by
  rcases hI with ⟨h1, rfl⟩ | ⟨b, off, c, h1, hb, hc⟩
  · cases h1
    exact allMinus_nil w
  · cases h1
    exact allMinus_some b off cap xs hx hreach w hc
end Go.Proofs.YtpjdmhidhllbkaaGreatDoor

namespace Go.Proofs.YtpjdmhidhllbkaaGreatDoor
open Go.RowKit Go.IntWalk

theorem sum_size (xs : List Nat) (hf : FinL xs) (hn : xs.length ≤ 4096) : (sumSv xs xs.length).natAbs < 2 ^ (kN + 13) := by
  have h1 := sum_le xs hf xs.length (Nat.le_refl _)
  rw [Nat.pow_add]
  have h0 : 0 < 2 ^ kN := Nat.two_pow_pos _
  generalize 2 ^ kN = P at h0 h1
  have h2 : xs.length * P ≤ 4096 * P := Nat.mul_le_mul_right _ hn
  omega
theorem neg_one : signN true 4607182418800017408 = 13830554455654793216 ∧ signN true 0 = 9223372036854775808 := by decide
set_option maxHeartbeats 1000000 in
theorem numberFor_any (neg : Bool) (a : Option Addr) (n cap : Nat) (e' z e : Int) (sa : Option Addr) (len sc : Nat) (xs : List Nat) (w : World) (hx : ∀ x ∈ xs, x < 18446744073709551616) (hreach : xs.length ≤ 17592186043904) (hI : FltAt w.heap.size w (.slice sa len sc) xs) (N : Nat) (h : DyAt w neg a n cap e' z e) (hz : z.natAbs < 2 ^ N) (hN : e + (N : Int) ≤ 2900) (hN2 : N ≤ 6400) (he1 : -3000 ≤ e) (hT : Tab w) (hg : 2 < w.heap.size) :
    Calls Tryz.prog 44 #[.agg #[.bool neg, .slice a n cap, .int .i64 e'], .slice sa len sc] w fun r w' => r = .returned (.tuple #[.float .f64 (if minusB xs = true then 9223372036854775808 else rndI z e), .int .i64 0]) ∧ Below w.heap.size w w' := by
  have hal : Below w.heap.size w (w.alloc (DyBox neg a n cap e')) := (Below.refl _ _).alloc (Nat.le_refl _) _
  have HB0 := hid hal
  have HD : Hid (∀ W, Below w.heap.size w W → Calls Tryz.prog 57 #[.agg #[.bool neg, .slice a n cap, .int .i64 e'], .int .i64 0] W fun r w' => r = .returned (.tuple #[.float .f64 (rndI z e), .int .i64 0]) ∧ Below W.heap.size W w') := fun W hW => by
    obtain ⟨L, h1, h2, h3, h4⟩ := h
    exact Round0_dy neg a n cap N e' z e W ⟨L, h1, h2, h3.below hW, h4⟩ hz hN hN2 he1 (hT.below hg hW) (Nat.lt_of_lt_of_le hg hW.size)
  have HM : Hid (∀ W, Below w.heap.size w W → Calls Tryz.prog 83 #[.slice sa len sc] W fun r w' => r = .returned (.bool (minusB xs)) ∧ w' = W) := fun W hW => by
    refine allMinus_any sa len sc xs hx hreach W ?_
    rcases hI.below hW with h | ⟨b, off, c, h1, h2, h3⟩
    · exact .inl h
    · exact .inr ⟨b, off, c, h1, Nat.lt_of_lt_of_le h2 hW.size, h3⟩
  have hbx := new_blk w (DyBox neg a n cap e') w.heap.size rfl
  obtain ⟨c0, c1, c2⟩ := dcells_of hbx
  have HMW := hid (HM.out _ hal)
  have HDW := hid (HD.out _ hal)
  have HCS : Hid (∀ W, Calls Tryz.prog 39 #[.float .f64 0, .float .f64 13830554455654793216] W fun e w' => e = .returned (.float .f64 9223372036854775808) ∧ w' = W) := fun W => by
    have := copysign_any 0 true 4607182418800017408 W (by decide) (by decide)
    rw [neg_one.1, neg_one.2] at this
    exact this
  obtain ⟨W0, hW0⟩ : ∃ V, Hid (w.alloc (DyBox neg a n cap e') = V) := ⟨_, rfl⟩
  rw [hW0.out] at HB0 c0 c1 c2 HMW HDW
  unfold DyBox at hW0
  have hW0' := hW0.out
  obtain ⟨R, hR⟩ : ∃ R, Hid (rndI z e = R) := ⟨_, rfl⟩
  rw [hR.out] at HDW ⊢
  clear h hz hN hN2 he1 hT hg hx hreach hI HD HM hal hbx
  by_cases hm : minusB xs = true
  · rw [hm] at HMW
    rw [if_pos hm]
    clear hm
    go_enter Tryz.func44, Tryz.ntmps44
    go_wp2_with fail
    refine HMW.out.mono ?_
    rintro r w1 ⟨rfl, rfl⟩
    go_wp2_with fail
    refine (HCS.out _).mono ?_
    rintro r w2 ⟨rfl, rfl⟩
    go_wp2
    go_ret2
    exact ⟨rfl, HB0.out⟩
  · have hm' : minusB xs = false := by revert hm; cases minusB xs <;> simp
    rw [hm'] at HMW
    rw [if_neg hm]
    clear hm hm'
    go_enter Tryz.func44, Tryz.ntmps44
    go_wp2_with fail
    refine HMW.out.mono ?_
    rintro r w1 ⟨rfl, rfl⟩
    go_wp2_with fail
    refine HDW.out.mono ?_
    rintro r w2 ⟨rfl, hb2⟩
    have HB2 := hid (HB0.out.trans (hb2.mono HB0.out.size))
    clear hb2
    go_wp2
    go_ret2
    exact ⟨rfl, HB2.out⟩
theorem Finite_list (sa : Option Addr) (n cap : Nat) (xs : List Nat) (w : World) (hl : ListAt w sa n cap xs) (hb : ∀ x ∈ xs, x < 18446744073709551616) (hn : n ≤ 17592186043904) :
    Calls Tryz.prog 41 #[.slice sa n cap] w fun r w' => r = .returned (.bool (allFin xs)) ∧ Below w.heap.size w w' := by
  obtain ⟨rfl, h⟩ := hl
  rcases h with ⟨rfl, h0, rfl⟩ | ⟨h0, b, rfl, hm⟩
  · have hx : xs = [] := List.length_eq_zero_iff.1 h0
    subst hx
    exact Finite_nil w
  · exact Finite_any xs b 0 cap w hm.1 hm.2 (bit_iff xs hb) (by omega)
set_option maxHeartbeats 2000000 in
/-- sum.Exact of finite numbers. -/
theorem Exact_fin (sa : Option Addr) (n cap : Nat) (xs : List Nat) (w : World) (hl : ListAt w sa n cap xs) (hb : ∀ x ∈ xs, x < 18446744073709551616) (hn : n ≤ 4096) (hf : allFin xs = true) (hT : Tab w) (hg : 2 < w.heap.size) (hT3 : Tab32 w) (hs : 1 < w.heap.size) :
    Calls Tryz.prog 8 #[.slice sa n cap] w fun r w' => r = .returned (.tuple #[.float .f64 (exactN xs n), .int .i64 0]) ∧ Below w.heap.size w w' := by
  have HF := hid (Finite_list sa n cap xs w hl hb (by omega))
  rw [hf] at HF
  have HS : Hid (∀ W, Below w.heap.size w W → Calls Tryz.prog 43 #[.slice sa n cap] W fun r w' => ∃ neg a k c e', r = .returned (.tuple #[.agg #[.bool neg, .slice a k c, .int .i64 e'], .int .i64 0]) ∧ Hid (DyAt w' neg a k c e' (sumSv xs n) (-1074)) ∧ Below W.heap.size W w') := fun W hW => by
    refine (Sum_list sa n cap xs W (hl.below hW) hb (by omega) (hT.below hg hW) (Nat.lt_of_lt_of_le hg hW.size) (hT3.below hs hW) (Nat.lt_of_lt_of_le hs hW.size)).mono ?_
    rintro r w' ⟨neg, a, k, c, e', E, rfl, h1, _, h3⟩
    obtain ⟨rfl, h4⟩ := h1 hf
    exact ⟨neg, a, k, c, e', rfl, h4, h3⟩
  have HN : Hid (∀ W neg a k c e', Below w.heap.size w W → DyAt W neg a k c e' (sumSv xs n) (-1074) → Calls Tryz.prog 44 #[.agg #[.bool neg, .slice a k c, .int .i64 e'], .slice sa n cap] W fun r w' => r = .returned (.tuple #[.float .f64 (exactN xs n), .int .i64 0]) ∧ Below W.heap.size W w') := fun W neg a k c e' hW hd => by
    have hz := sum_size xs (fin_iff xs hb hf) (by rw [hl.1]; exact hn)
    rw [hl.1] at hz
    exact numberFor_any neg a k c e' (sumSv xs n) (-1074) sa n cap xs W hb (by rw [hl.1]; omega) (hl.below hW).flt (kN + 13) hd hz (by have := kN_is; omega) (by have := kN_is; omega) (by decide) (hT.below hg hW) (Nat.lt_of_lt_of_le hg hW.size)
  obtain ⟨R, hR⟩ : ∃ R, Hid (exactN xs n = R) := ⟨_, rfl⟩
  rw [hR.out] at HN ⊢
  have hnI : (n : Int) ≤ 4096 := by omega
  clear hl hb hf hT hg hT3 hs
  go_enter Tryz.func8, Tryz.ntmps8
  go_wp2_with fail
  refine HF.out.mono ?_
  rintro r w1 ⟨rfl, hb1⟩
  have HB1 := hid hb1
  clear hb1
  go_wp2_with fail
  refine (HS.out _ HB1.out).mono ?_
  rintro r w2 ⟨neg, a, k, c, e', rfl, HD, hb2⟩
  have HB2 := hid (HB1.out.trans (hb2.mono HB1.out.size))
  have hal : Below w2.heap.size w2 (w2.alloc (DyBox neg a k c e')) := (Below.refl _ _).alloc (Nat.le_refl _) _
  have HBV := hid (HB2.out.trans (hal.mono HB2.out.size))
  obtain ⟨c0, c1, c2⟩ := dcells_of (new_blk w2 (DyBox neg a k c e') w2.heap.size rfl)
  have HDV : Hid (DyAt (w2.alloc (DyBox neg a k c e')) neg a k c e' (sumSv xs n) (-1074)) := by
    obtain ⟨L, h1, h2, h3, h4⟩ := HD.out
    exact ⟨L, h1, h2, h3.below hal, h4⟩
  obtain ⟨V, hV⟩ : ∃ V, Hid (w2.alloc (DyBox neg a k c e') = V) := ⟨_, rfl⟩
  rw [hV.out] at HBV c0 c1 c2 HDV
  unfold DyBox at hV
  have hV' := hV.out
  clear hb2 hal
  go_wp2_with fail
  refine (HN.out _ _ _ _ _ _ HBV.out HDV.out).mono ?_
  rintro r w3 ⟨rfl, hb3⟩
  have HB3 := hid (HBV.out.trans (hb3.mono HBV.out.size))
  clear hb3
  go_wp2
  go_ret2
  exact ⟨rfl, HB3.out⟩
end Go.Proofs.YtpjdmhidhllbkaaGreatDoor

namespace Go.Proofs.YtpjdmhidhllbkaaGreatDoor
open Go.RowKit Go.IntWalk

theorem bt100 : bits .andNot .u64 4607182418800017408 9223372036854775808 = 4607182418800017408 ∧ bits .and .i64 1023 2047 = 1023 ∧ bits .andNot .u64 4607182418800017408 9218868437227405312 = 0 ∧ bits .or .u64 0 5057542381537067008 = 5057542381537067008 := by decide +kernel
set_option maxHeartbeats 1000000 in
theorem ldexp_100 (w : World) : Calls Tryz.prog 91 #[.float .f64 4607182418800017408, .int .i64 100] w fun r w' => r = .returned (.float .f64 5057542381537067008) ∧ w' = w := by
  obtain ⟨g1, g2, g3, g4⟩ := o1
  obtain ⟨b1, b2, b3, b4⟩ := bt100
  have h1 := f64bits
  have h2 := f64fromI3
  have hm := f_mul (x := 4607182418800017408) (y := 5057542381537067008) (z := 5057542381537067008) (by decide +kernel)
  have c0 : wrap64 0 = 0 := by decide +kernel
  have c1 : wrap64 100 = 100 := by decide +kernel
  go_enter Tryz.func91, Tryz.ntmps91
  go_wp2
  go_ret
  exact ⟨rfl, rfl⟩
set_option maxHeartbeats 1000000 in
theorem Ldexp_100 (w : World) : Calls Tryz.prog 53 #[.float .f64 4607182418800017408, .int .i64 100] w fun r w' => r = .returned (.float .f64 5057542381537067008) ∧ w' = w := by
  go_enter Tryz.func53, Tryz.ntmps53
  go_wp2_with fail
  refine (ldexp_100 _).mono ?_
  rintro r w1 ⟨rfl, rfl⟩
  go_wp2
  go_ret
  exact ⟨rfl, rfl⟩
def ex4 : List Nat := [4607182418800017408, 5057542381537067008, 4607182418800017408, 14280914418391842816]
def ex2 : List Nat := [4607182418800017408, 4611686018427387904]
theorem ex4_neu : neuC ex4 = 4611686018427387904 := by decide +kernel
theorem ex2_sum : sumC ex2 = 4613937818241073152 := by decide +kernel
theorem ex4_fin : allFin ex4 = true ∧ minusB ex4 = false := by decide +kernel
theorem ex4_exact : exactN ex4 4 = 4611686018427387904 := by
  unfold exactN
  rw [ex4_fin.2, if_neg (by simp)]
  have h : sumSv ex4 4 = sv 4611686018427387904 := by decide +kernel
  rw [h]
  decide +kernel
theorem fneg_big : Op.unary .neg (.float .f64 5057542381537067008) = pure (.float .f64 14280914418391842816) := by
  show pure (Value.float .f64 (5057542381537067008 ^^^ 9223372036854775808)) = _
  rw [show (5057542381537067008 ^^^ 9223372036854775808 : Nat) = 14280914418391842816 by decide +kernel]
theorem eqs5 : (FloatKind.f64.format.order 4611686018427387904 4611686018427387904 == some .eq) = true ∧ (FloatKind.f64.format.order 4613937818241073152 4613937818241073152 == some .eq) = true := by decide +kernel
theorem ex4_lt : ∀ x ∈ ex4, x < 18446744073709551616 := by decide
theorem ex2_lt : ∀ x ∈ ex2, x < 18446744073709551616 := by decide
theorem list4 (W : World) (b : Nat) (x0 x1 x2 x3 : Nat) (h : W.heap[b]? = some (.cells #[.float .f64 x0, .float .f64 x1, .float .f64 x2, .float .f64 x3] 25)) : ListAt W (some ⟨b, 0, none⟩) 4 4 [x0, x1, x2, x3] := by
  refine ⟨rfl, .inr ⟨by decide, b, rfl, (Array.getElem?_eq_some_iff.1 h).1, fun i hi => ?_⟩⟩
  match i, hi with
  | 0, _ => simp [World.cell?, h]
  | 1, _ => simp [World.cell?, h]
  | 2, _ => simp [World.cell?, h]
  | 3, _ => simp [World.cell?, h]
theorem list2 (W : World) (b : Nat) (x0 x1 : Nat) (h : W.heap[b]? = some (.cells #[.float .f64 x0, .float .f64 x1] 25)) : ListAt W (some ⟨b, 0, none⟩) 2 2 [x0, x1] := by
  refine ⟨rfl, .inr ⟨by decide, b, rfl, (Array.getElem?_eq_some_iff.1 h).1, fun i hi => ?_⟩⟩
  match i, hi with
  | 0, _ => simp [World.cell?, h]
  | 1, _ => simp [World.cell?, h]
set_option maxHeartbeats 1000000 in
/-- Chapter 5's first examples. -/
theorem awake5_any (w : World) (hT : Tab w) (hg : 2 < w.heap.size) (hT3 : Tab32 w) (hs : 1 < w.heap.size) :
    Calls Tryz.prog 21 #[] w fun r w' => r = .returned (.bool true) ∧ Below w.heap.size w w' := by
  have HX : Hid (∀ W b, Below w.heap.size w W → W.heap[b]? = some (.cells #[.float .f64 4607182418800017408, .float .f64 5057542381537067008, .float .f64 4607182418800017408, .float .f64 14280914418391842816] 25) → Calls Tryz.prog 8 #[.slice (some ⟨b, 0, none⟩) 4 4] W fun r w' => r = .returned (.tuple #[.float .f64 4611686018427387904, .int .i64 0]) ∧ Below W.heap.size W w') := fun W b hW hc => by
    have := Exact_fin (some ⟨b, 0, none⟩) 4 4 ex4 W (list4 W b _ _ _ _ hc) ex4_lt (by decide) ex4_fin.1 (hT.below hg hW) (Nat.lt_of_lt_of_le hg hW.size) (hT3.below hs hW) (Nat.lt_of_lt_of_le hs hW.size)
    rw [ex4_exact] at this
    exact this
  have HN : Hid (∀ W b, W.heap[b]? = some (.cells #[.float .f64 4607182418800017408, .float .f64 5057542381537067008, .float .f64 4607182418800017408, .float .f64 14280914418391842816] 25) → Calls Tryz.prog 18 #[.slice (some ⟨b, 0, none⟩) 4 4] W fun r w' => r = .returned (.float .f64 4611686018427387904) ∧ Below W.heap.size W w') := fun W b hc => by
    have := Neum_any (some ⟨b, 0, none⟩) 4 4 ex4 ex4_lt (by decide) W (list4 W b _ _ _ _ hc).flt
    rw [ex4_neu] at this
    exact this
  have HL : Hid (∀ W b, W.heap[b]? = some (.cells #[.float .f64 4607182418800017408, .float .f64 4611686018427387904] 25) → Calls Tryz.prog 12 #[.slice (some ⟨b, 0, none⟩) 2 2] W fun r w' => r = .returned (.float .f64 4613937818241073152) ∧ Below W.heap.size W w') := fun W b hc => by
    have := Left_any (some ⟨b, 0, none⟩) 2 2 ex2 ex2_lt (by decide) W (list2 W b _ _ hc).flt
    rw [ex2_sum] at this
    exact this
  have hng := fneg_big
  obtain ⟨q1, q2⟩ := eqs5
  clear hT hg hT3 hs
  go_enter Tryz.func21, Tryz.ntmps21
  go_wp2_with fail
  refine (Ldexp_100 _).mono ?_
  rintro r w1 ⟨rfl, rfl⟩
  go_wp2_with fail
  refine (HX.out _ _ ((Below.refl _ _).alloc (Nat.le_refl _) _) (new_blk _ _ _ rfl)).mono ?_
  rintro r w2 ⟨rfl, hb2⟩
  have HB2 := hid (((Below.refl w1.heap.size w1).alloc (Nat.le_refl _) _).trans (hb2.mono (by simp)))
  clear hb2
  go_wp2_with fail
  refine (HL.out _ _ (new_blk _ _ _ rfl)).mono ?_
  rintro r w3 ⟨rfl, hb3⟩
  have HB3 := hid ((HB2.out.alloc HB2.out.size _).trans (hb3.mono (by have := HB2.out.size; simp; omega)))
  clear hb3
  go_wp2_with fail
  refine (HN.out _ _ (new_blk _ _ _ rfl)).mono ?_
  rintro r w4 ⟨rfl, hb4⟩
  have HB4 := hid ((HB3.out.alloc HB3.out.size _).trans (hb4.mono (by have := HB3.out.size; simp; omega)))
  clear hb4
  go_wp2
  go_ret
  exact ⟨rfl, HB4.out⟩
end Go.Proofs.YtpjdmhidhllbkaaGreatDoor

namespace Go.Proofs.YtpjdmhidhllbkaaGreatDoor
open Go.RowKit Go.IntWalk

theorem FltAt.get {n0 : Nat} {W : World} {sa : Option Addr} {n cap : Nat} {xs : List Nat} (h : FltAt n0 W (.slice sa n cap) xs) : xs.length = n ∧ (n ≠ 0 → ∃ b off, sa = some ⟨b, off, none⟩ ∧ b < n0 ∧ ∀ j, j < n → W.cell? ⟨b, off + j, none⟩ = some (.float .f64 (xs.getD j 0))) := by
  rcases h with ⟨h1, rfl⟩ | ⟨b, off, c, h1, hb, hc⟩
  · cases h1
    exact ⟨rfl, fun h => absurd rfl h⟩
  · cases h1
    exact ⟨rfl, fun _ => ⟨b, off, rfl, hb, hc⟩⟩
/-- Products of canonical numbers. -/
def prodL (xs ys : List Nat) (n : Nat) : List Nat := (List.range n).map fun j => caf .mul (canonOf (xs.getD j 0)) (canonOf (ys.getD j 0))
theorem prodL_succ (xs ys : List Nat) (n : Nat) : prodL xs ys (n + 1) = prodL xs ys n ++ [caf .mul (canonOf (xs.getD n 0)) (canonOf (ys.getD n 0))] := by simp [prodL, List.range_succ]
theorem sumC_canon (zs : List Nat) : sumC (zs.map canonOf) = sumC zs := by
  unfold sumC
  rw [List.foldl_map]
  congr 1
  funext s x
  rw [canon_twice]
theorem info_fl : (Tryz.prog.info? 25).map (fun i => (i.zero, i.size, i.bytes)) = some (some (.float .f64 0), 1, 8) := by kernel_rfl
set_option maxHeartbeats 2000000 in
theorem products_any (sa sb : Option Addr) (N ca cb : Nat) (xs ys : List Nat) (hx : ∀ x ∈ xs, x < 18446744073709551616) (hy : ∀ x ∈ ys, x < 18446744073709551616) (hN : N ≤ 17592186043904) (w : World) (ha : FltAt w.heap.size w (.slice sa N ca) xs) (hb : FltAt w.heap.size w (.slice sb N cb) ys) :
    Calls Tryz.prog 54 #[.slice sa N ca, .slice sb N cb] w fun r w' => ∃ zs, r = .returned (.slice (some ⟨w.heap.size, 0, none⟩) N N) ∧ zs.map canonOf = prodL xs ys N ∧ (∀ z ∈ zs, z < 18446744073709551616) ∧ FltAt w'.heap.size w' (.slice (some ⟨w.heap.size, 0, none⟩) N N) zs ∧ Below w.heap.size w w' := by
  have hmk := run_make_row' (P := Tryz.prog) 23 25 (.float .f64 0) 8 Tryz.underlying23 info_fl rfl .i64 .i64 N (by omega) (by omega)
  have r3 := ar_run .mul ok_m
  have hst := fstoreS
  have HA := hid ha.get
  have HB := hid hb.get
  have HX : Hid (∀ j, j < N → xs.getD j 0 < 18446744073709551616) := fun j hj => hx _ (mem_get xs j (by rw [ha.get.1]; exact hj))
  have HY : Hid (∀ j, j < N → ys.getD j 0 < 18446744073709551616) := fun j hj => hy _ (mem_get ys j (by rw [hb.get.1]; exact hj))
  clear hx hy ha hb
  go_enter Tryz.func54, Tryz.ntmps54
  go_wp2_with fail
  go_loopw [13] (fun i wr => ∃ (k : Nat) (o : Nat → Nat), k ≤ N ∧ i = .int .i64 k ∧ Hid (wr.rowIs w.heap.size 25 N (fun j => .float .f64 (o j))) ∧ Hid (∀ j, j < k → o j < 18446744073709551616 ∧ canonOf (o j) = caf .mul (canonOf (xs.getD j 0)) (canonOf (ys.getD j 0))) ∧ Hid (Below w.heap.size w wr)) (fun i _ => N - (intOf i).toNat)
  case atStart => exact ⟨0, fun _ => 0, Nat.zero_le _, rfl, World.rowIs_made w (.float .f64 0) N _, fun j hj => absurd hj (Nat.not_lt_zero j), (Below.refl _ _).alloc (Nat.le_refl _) _⟩
  case round =>
    obtain ⟨k, o, hk, rfl, HR, HP, HBW⟩ := hrel
    by_cases hlt : k < N
    · obtain ⟨b, off, rfl, hb1, hc1⟩ := HA.out.2 (by omega)
      obtain ⟨b2, off2, rfl, hb2, hc2⟩ := HB.out.2 (by omega)
      have g1 : wr.cell? ⟨b, off + k, none⟩ = some (.float .f64 (xs.getD k 0)) := (HBW.out.cell (p := ⟨b, off + k, none⟩) hb1).trans (hc1 k hlt)
      have g2 : wr.cell? ⟨b2, off2 + k, none⟩ = some (.float .f64 (ys.getD k 0)) := (HBW.out.cell (p := ⟨b2, off2 + k, none⟩) hb2).trans (hc2 k hlt)
      have hx := HX.out k hlt
      have hy := HY.out k hlt
      have HD : Hid (canonOf (arF .mul (xs.getD k 0) (ys.getD k 0) wr) = caf .mul (canonOf (xs.getD k 0)) (canonOf (ys.getD k 0))) := canon_ar ok_m _ _ _ hx hy
      have HT : Hid (∀ j, j < k → o j < 18446744073709551616 ∧ canonOf (o j) = caf .mul (canonOf (xs.getD j 0)) (canonOf (ys.getD j 0))) := HP
      obtain ⟨x, hxx⟩ : ∃ x, Hid (xs.getD k 0 = x) := ⟨_, rfl⟩
      obtain ⟨y, hyy⟩ : ∃ y, Hid (ys.getD k 0 = y) := ⟨_, rfl⟩
      rw [hxx.out] at g1 HD
      rw [hyy.out] at g2 HD
      have hkI : (k : Int) < (N : Int) := by omega
      have hk0 : (0 : Int) ≤ (k : Int) := by omega
      have HR1 : Hid ((arG .mul x y wr).rowIs w.heap.size 25 N (fun j => .float .f64 (o j))) := HR.out.of_block (by rw [arG_heap])
      have c1 := HR1.out.cell hlt
      have f1 := HR1.out.frozen k
      have HBG : Hid (Below w.heap.size w (arG .mul x y wr)) := bl_ar HBW.out _ _ _
      clear hc1 hc2 hb1 hb2 hx hy HP
      go_wp2
      refine ⟨⟨k + 1, fun j => if j = k then arF .mul x y wr else o j, by omega, by go_num, ?_, fun j hj => ?_, HBG.out.setCell (p := ⟨w.heap.size, k, none⟩) (Nat.le_refl _) _⟩, ?_⟩
      · refine (HR1.out.set k _).congr (fun j _ => ?_)
        by_cases hjk : j = k <;> simp [hjk]
      · dsimp only
        by_cases hjk : j = k
        · subst hjk
          rw [if_pos rfl]
          exact ⟨arF_lt ok_m _ _ _, by rw [hxx.out, hyy.out]; exact HD.out⟩
        · rw [if_neg hjk]
          exact HT.out j (by omega)
      · simp [intOf]; omega
    · obtain rfl : k = N := by omega
      go_wp2
      go_ret
      refine ⟨(List.range k).map o, rfl, ?_, ?_, .inr ⟨w.heap.size, 0, k, by simp, HR.out.lt, fun j hj => ?_⟩, HBW.out⟩
      · rw [List.map_map]
        unfold prodL
        refine List.map_congr_left (fun j hj => ?_)
        exact (HP.out j (List.mem_range.1 hj)).2
      · intro z hz
        obtain ⟨j, hj, rfl⟩ := List.mem_map.1 hz
        exact (HP.out j (List.mem_range.1 hj)).1
      · have hj2 : j < k := by simpa using hj
        rw [Nat.zero_add, HR.out.cell hj2, List.getD_eq_getElem?_getD, List.getElem?_map, List.getElem?_range hj2]
        rfl
set_option maxHeartbeats 1000000 in
/-- sum.Dot of any two lists. -/
theorem Dot_any (sa sb : Option Addr) (N M ca cb : Nat) (xs ys : List Nat) (hx : ∀ x ∈ xs, x < 18446744073709551616) (hy : ∀ x ∈ ys, x < 18446744073709551616) (hN : N ≤ 17592186043904) (w : World) (ha : FltAt w.heap.size w (.slice sa N ca) xs) (hb : FltAt w.heap.size w (.slice sb M cb) ys) :
    Calls Tryz.prog 22 #[.slice sa N ca, .slice sb M cb] w fun r w' => r = .returned (.tuple #[.float .f64 (if N = M then sumC (prodL xs ys N) else 0), .int .i64 (if N = M then 0 else 3)]) ∧ Below w.heap.size w w' := by
  by_cases h : N = M
  · subst h
    rw [if_pos rfl, if_pos rfl]
    have HP := hid (products_any sa sb N ca cb xs ys hx hy hN w ha hb)
    have HLN := hid (fun (zs : List Nat) (h : zs.map canonOf = prodL xs ys N) => (by
      have h1 := congrArg List.length h
      rw [List.length_map] at h1
      unfold prodL at h1
      rw [List.length_map, List.length_range] at h1
      exact h1 : zs.length = N))
    have hne : ((N : Int) != (N : Int)) = false := by simp
    clear hx hy ha hb
    go_enter Tryz.func22, Tryz.ntmps22
    go_wp2_with fail
    refine HP.out.mono ?_
    rintro r w1 ⟨zs, rfl, h1, h2, h3, hb1⟩
    have hl := HLN.out zs h1
    have HB1 := hid hb1
    have HL := hid (Left_any _ N N zs h2 (by omega) w1 h3)
    rw [← sumC_canon, h1] at HL
    clear h1 h2 h3 hb1 hl
    go_wp2_with fail
    refine HL.out.mono ?_
    rintro r w2 ⟨rfl, hb2⟩
    have HB2 := hid (HB1.out.trans (hb2.mono HB1.out.size))
    clear hb2
    go_wp2
    go_ret2
    exact ⟨rfl, HB2.out⟩
  · rw [if_neg h, if_neg h]
    have hne : ((N : Int) != (M : Int)) = true := by simp; omega
    clear hx hy ha hb h
    go_enter Tryz.func22, Tryz.ntmps22
    go_wp2
    go_ret2
    exact ⟨rfl, Below.refl _ _⟩
end Go.Proofs.YtpjdmhidhllbkaaGreatDoor

namespace Go.Proofs.YtpjdmhidhllbkaaGreatDoor
open Go.RowKit Go.IntWalk

set_option maxHeartbeats 2000000 in
theorem rDot_any (sa sb : Option Addr) (N M ca cb : Nat) (xs ys : List Nat) (hx : ∀ x ∈ xs, x < 18446744073709551616) (hy : ∀ x ∈ ys, x < 18446744073709551616) (hN : N ≤ 17592186043904) (w : World) (ha : FltAt w.heap.size w (.slice sa N ca) xs) (hb : FltAt w.heap.size w (.slice sb M cb) ys) :
    Calls Tryz.prog 23 #[.slice sa N ca, .slice sb M cb] w fun r w' => r = .returned (.tuple #[.float .f64 (if N = M then sumC (prodL xs ys N) else 0), .int .i64 (if N = M then 0 else 3)]) ∧ Below w.heap.size w w' := by
  by_cases h : N = M
  · subst h
    rw [if_pos rfl, if_pos rfl]
    have r1 := ar_run .add ok_a
    have r3 := ar_run .mul ok_m
    have HA := hid ha.get
    have HB := hid hb.get
    have HX : Hid (∀ j, j < N → xs.getD j 0 < 18446744073709551616) := fun j hj => hx _ (mem_get xs j (by rw [ha.get.1]; exact hj))
    have HY : Hid (∀ j, j < N → ys.getD j 0 < 18446744073709551616) := fun j hj => hy _ (mem_get ys j (by rw [hb.get.1]; exact hj))
    have hne : ((N : Int) != (N : Int)) = false := by simp
    clear hx hy ha hb
    go_enter Tryz.func23, Tryz.ntmps23
    go_wp2_with fail
    go_loopw [6, 15] (fun s i wr => ∃ k s0 : Nat, k ≤ N ∧ s = .float .f64 s0 ∧ i = .int .i64 k ∧ Hid (s0 < 18446744073709551616 ∧ canonOf s0 = sumC (prodL xs ys k)) ∧ Hid (Below w.heap.size w wr)) (fun _ i _ => N - (intOf i).toNat)
    case atStart => exact ⟨0, 0, Nat.zero_le _, rfl, rfl, ⟨by decide, by show canonOf 0 = sumC []; decide⟩, Below.refl _ _⟩
    case round =>
      obtain ⟨k, s0, hk, rfl, rfl, HS, HBW⟩ := hrel
      by_cases hlt : k < N
      · obtain ⟨b, off, rfl, hb1, hc1⟩ := HA.out.2 (by omega)
        obtain ⟨b2, off2, rfl, hb2, hc2⟩ := HB.out.2 (by omega)
        have HKS : Hid (∀ W, Hid (Below w.heap.size w W) → (W.cell? ⟨b, off + k, none⟩ = some (.float .f64 (xs.getD k 0)) ∧ W.cell? ⟨b2, off2 + k, none⟩ = some (.float .f64 (ys.getD k 0))) ∧ Hid (Below w.heap.size w W)) := fun W hW => ⟨⟨(hW.out.cell (p := ⟨b, off + k, none⟩) hb1).trans (hc1 k hlt), (hW.out.cell (p := ⟨b2, off2 + k, none⟩) hb2).trans (hc2 k hlt)⟩, hW⟩
        have hx := HX.out k hlt
        have hy := HY.out k hlt
        have HP : Hid (prodL xs ys (k + 1) = prodL xs ys k ++ [caf .mul (canonOf (xs.getD k 0)) (canonOf (ys.getD k 0))]) := prodL_succ xs ys k
        have HD : Hid (∀ W W', arF .add s0 (arF .mul (xs.getD k 0) (ys.getD k 0) W) W' < 18446744073709551616 ∧ canonOf (arF .add s0 (arF .mul (xs.getD k 0) (ys.getD k 0) W) W') = sumC (prodL xs ys (k + 1))) := fun W W' => ⟨arF_lt ok_a _ _ _, by rw [canon_ar ok_a _ _ _ HS.out.1 (arF_lt ok_m _ _ _), canon_ar ok_m _ _ _ hx hy, HP.out, sumC_snoc, caf_can, HS.out.2]⟩
        obtain ⟨x, hxx⟩ : ∃ x, Hid (xs.getD k 0 = x) := ⟨_, rfl⟩
        obtain ⟨y, hyy⟩ : ∃ y, Hid (ys.getD k 0 = y) := ⟨_, rfl⟩
        rw [hxx.out, hyy.out] at HKS HD
        have hkI : (k : Int) < (N : Int) := by omega
        have hk0 : (0 : Int) ≤ (k : Int) := by omega
        have HQ0 : Hid (Below w.heap.size w wr.drew) := HBW.out.drew
        have HQ1 : Hid (Below w.heap.size w (arG .mul x y wr.drew)) := bl_ar HQ0.out _ _ _
        have HQ2 : Hid (Below w.heap.size w (arG .add s0 (arF .mul x y wr.drew) (arG .mul x y wr.drew))) := bl_ar HQ1.out _ _ _
        clear hc1 hc2 hb1 hb2 hx hy HP
        go_wp2_with fail
        refine wp_region_held_drew (S := fun W => (W.cell? ⟨b, off + k, none⟩ = some (.float .f64 x) ∧ W.cell? ⟨b2, off2 + k, none⟩ = some (.float .f64 y)) ∧ Hid (Below w.heap.size w W)) (by kernel_rfl) (HKS.out _ HQ0) (fun hHeld => ?_)
        -- REGION1
        refine take_at 0 18 (.float .f64 s0) rfl rfl (by kernel_rfl) (by kernel_rfl) (by kernel_rfl) (fun _ _ _ h => h) (Or.inl ⟨by rfl, fun w hSw => by (try dsimp only at hSw); go_simp⟩) (by assumption) ?_
        simp only [Act.put, List.setIfInBounds_toArray, List.set_cons_zero, List.set_cons_succ]
        refine take_at 1 19 (.slice (some ⟨b, off, none⟩) N ca) rfl rfl (by kernel_rfl) (by kernel_rfl) (by kernel_rfl) (fun _ _ _ h => h) (Or.inl ⟨by rfl, fun w hSw => by (try dsimp only at hSw); go_simp⟩) (by assumption) ?_
        simp only [Act.put, List.setIfInBounds_toArray, List.set_cons_zero, List.set_cons_succ]
        refine take_at 2 20 (.int .i64 k) rfl rfl (by kernel_rfl) (by kernel_rfl) (by kernel_rfl) (fun _ _ _ h => h) (Or.inl ⟨by rfl, fun w hSw => by (try dsimp only at hSw); go_simp⟩) (by assumption) ?_
        simp only [Act.put, List.setIfInBounds_toArray, List.set_cons_zero, List.set_cons_succ]
        refine take_at 3 21 (.pointer (some ⟨b, off + k, none⟩)) rfl rfl (by kernel_rfl) (by kernel_rfl) (by kernel_rfl) (fun _ _ _ h => h) (Or.inl ⟨by rfl, fun w hSw => by (try dsimp only at hSw); go_simp⟩) (by assumption) ?_
        simp only [Act.put, List.setIfInBounds_toArray, List.set_cons_zero, List.set_cons_succ]
        refine take_at 4 22 (.float .f64 x) rfl rfl (by kernel_rfl) (by kernel_rfl) (by kernel_rfl) (fun _ _ _ h => h) (Or.inl ⟨by rfl, fun w hSw => by (try dsimp only at hSw); go_simp⟩) (by assumption) ?_
        simp only [Act.put, List.setIfInBounds_toArray, List.set_cons_zero, List.set_cons_succ]
        refine take_at 5 23 (.slice (some ⟨b2, off2, none⟩) N cb) rfl rfl (by kernel_rfl) (by kernel_rfl) (by kernel_rfl) (fun _ _ _ h => h) (Or.inl ⟨by rfl, fun w hSw => by (try dsimp only at hSw); go_simp⟩) (by assumption) ?_
        simp only [Act.put, List.setIfInBounds_toArray, List.set_cons_zero, List.set_cons_succ]
        refine take_at 6 24 (.int .i64 k) rfl rfl (by kernel_rfl) (by kernel_rfl) (by kernel_rfl) (fun _ _ _ h => h) (Or.inl ⟨by rfl, fun w hSw => by (try dsimp only at hSw); go_simp⟩) (by assumption) ?_
        simp only [Act.put, List.setIfInBounds_toArray, List.set_cons_zero, List.set_cons_succ]
        refine take_at 7 25 (.pointer (some ⟨b2, off2 + k, none⟩)) rfl rfl (by kernel_rfl) (by kernel_rfl) (by kernel_rfl) (fun _ _ _ h => h) (Or.inl ⟨by rfl, fun w hSw => by (try dsimp only at hSw); go_simp⟩) (by assumption) ?_
        simp only [Act.put, List.setIfInBounds_toArray, List.set_cons_zero, List.set_cons_succ]
        refine take_at 8 26 (.float .f64 y) rfl rfl (by kernel_rfl) (by kernel_rfl) (by kernel_rfl) (fun _ _ _ h => h) (Or.inl ⟨by rfl, fun w hSw => by (try dsimp only at hSw); go_simp⟩) (by assumption) ?_
        simp only [Act.put, List.setIfInBounds_toArray, List.set_cons_zero, List.set_cons_succ]
        refine wpAnyH_ready (rs := [9]) (by kernel_rfl) (by simp) ?_
        refine AllReadyH.cons (o := _) rfl (fun K hK => ?_) AllReadyH.nil
        go_simp
        go_wp2_with fail
        refine hK.out _ _ (HKS.out _ HQ1) (fun hHeld1 => ?_)
        clear hK K
        try simp only [Act.put, List.setIfInBounds_toArray, List.set_cons_zero, List.set_cons_succ]
        refine wpAnyH_ready (rs := [10]) (by kernel_rfl) (by simp) ?_
        refine AllReadyH.cons (o := _) rfl (fun K hK => ?_) AllReadyH.nil
        go_simp
        go_wp2_with fail
        refine hK.out _ _ (HKS.out _ HQ2) (fun hHeld2 => ?_)
        clear hK K
        try simp only [Act.put, List.setIfInBounds_toArray, List.set_cons_zero, List.set_cons_succ]
        refine take_at 11 6 (.float .f64 (arF .add s0 (arF .mul x y wr.drew) (arG .mul x y wr.drew))) rfl rfl (by kernel_rfl) (by kernel_rfl) (by kernel_rfl) (fun _ _ _ h => h) (Or.inl ⟨by rfl, fun w hSw => by (try dsimp only at hSw); go_simp⟩) (by assumption) ?_
        simp only [Act.put, List.setIfInBounds_toArray, List.set_cons_zero, List.set_cons_succ]
        refine wpAnyH_done (by kernel_rfl) ?_ _
        -- END1
        go_wp2_with fail
        refine ⟨⟨k + 1, _, by omega, rfl, by go_num, HD.out _ _, HQ2⟩, ?_⟩
        simp [intOf]; omega
      · obtain rfl : k = N := by omega
        have HR := hid (fun (V : World) => rcanonS_any s0 V HS.out.1)
        rw [HS.out.2] at HR
        go_wp2_with fail
        refine (HR.out _).mono ?_
        rintro r w1 ⟨rfl, rfl⟩
        go_wp2
        go_ret2
        exact ⟨rfl, HBW.out⟩
  · rw [if_neg h, if_neg h]
    have hne : ((N : Int) != (M : Int)) = true := by simp; omega
    clear hx hy ha hb h
    go_enter Tryz.func23, Tryz.ntmps23
    go_wp2
    go_ret2
    exact ⟨rfl, Below.refl _ _⟩
end Go.Proofs.YtpjdmhidhllbkaaGreatDoor

namespace Go.Proofs.YtpjdmhidhllbkaaGreatDoor
open Go.RowKit Go.IntWalk

theorem f64fromS (n : Int) (w : World) : (callFunc 26 #[.int .u64 n]).run Tryz.prog w = .ok (.value (.float .f64 n.toNat)) w := by
  rw [run_callFunc_extern Tryz.func26 (by kernel_rfl) (by kernel_rfl) (by kernel_rfl) (e := Extern.MathFloatBits.float64frombits) (by kernel_rfl)]; rfl
set_option maxHeartbeats 400000 in
theorem Inf_posS (w : World) : Calls Tryz.prog 70 #[.int .i64 1] w fun r w' => r = .returned (.float .f64 9218868437227405312) ∧ w' = w := by
  have h64 := f64fromS
  go_enter Tryz.func70, Tryz.ntmps70
  go_wp2
  go_ret
  exact ⟨rfl, rfl⟩
set_option maxHeartbeats 400000 in
theorem Inf_negS (w : World) : Calls Tryz.prog 70 #[.int .i64 (-1)] w fun r w' => r = .returned (.float .f64 18442240474082181120) ∧ w' = w := by
  have h64 := f64fromS
  go_enter Tryz.func70, Tryz.ntmps70
  go_wp2
  go_ret
  exact ⟨rfl, rfl⟩
set_option maxHeartbeats 400000 in
theorem rNaNS (w : World) : Calls Tryz.prog 69 #[] w fun r w' => r = .returned (.float .f64 9221120237041090561) ∧ w' = w := by
  have h64 := f64fromS
  go_enter Tryz.func69, Tryz.ntmps69
  go_wp2
  go_ret
  exact ⟨rfl, rfl⟩
/-- Is it the infinity of this sign? -/
def infB (x : Nat) (s : Int) : Bool := FloatKind.f64.format.order (if s = 1 then x else x ^^^ 9223372036854775808) 9218868437227405311 == some .gt
theorem negS (b : Nat) : Op.unary .neg (.float .f64 b) = pure (.float .f64 (b ^^^ 9223372036854775808)) := rfl
set_option maxHeartbeats 400000 in
theorem isinfS (x : Nat) (s : Int) (w : World) (hs : s = 1 ∨ s = -1) : Calls Tryz.prog 68 #[.float .f64 x, .int .i64 s] w fun r w' => r = .returned (.bool (infB x s)) ∧ w' = w := by
  unfold infB
  rcases hs with rfl | rfl
  · rw [if_pos rfl]
    by_cases c : FloatKind.f64.format.order x 9218868437227405311 = some .gt
    · rw [c]
      go_enter Tryz.func68, Tryz.ntmps68
      go_wp2
      go_ret
      exact ⟨rfl, rfl⟩
    · have d : (FloatKind.f64.format.order x 9218868437227405311 == some .gt) = false := by simpa using c
      rw [d]
      go_enter Tryz.func68, Tryz.ntmps68
      go_wp2
      go_ret
      exact ⟨rfl, rfl⟩
  · rw [if_neg (by decide)]
    have hn := negS x
    obtain ⟨y, hy⟩ : ∃ y, x ^^^ 9223372036854775808 = y := ⟨_, rfl⟩
    rw [hy] at hn ⊢
    clear hy
    by_cases c : FloatKind.f64.format.order y 9218868437227405311 = some .gt
    · rw [c]
      go_enter Tryz.func68, Tryz.ntmps68
      go_wp2
      go_ret
      exact ⟨rfl, rfl⟩
    · have d : (FloatKind.f64.format.order y 9218868437227405311 == some .gt) = false := by simpa using c
      rw [d]
      go_enter Tryz.func68, Tryz.ntmps68
      go_wp2
      go_ret
      exact ⟨rfl, rfl⟩
theorem any_snoc (p : Nat → Bool) (zs : List Nat) (x : Nat) : (zs ++ [x]).any p = (zs.any p || p x) := by
  rw [List.any_append]
  simp
def nanB (x : Nat) : Bool := FloatKind.f64.format.order x x != some .eq
def upL (zs : List Nat) : Bool := zs.any fun z => infB z 1
def dnL (zs : List Nat) : Bool := zs.any fun z => infB z (-1)
def naL (zs : List Nat) : Bool := zs.any nanB
/-- What they come to, and whether there are any. -/
def spec3 (n u d : Bool) : Nat × Bool := if (n || (u && d)) = true then (9221120237041090561, true) else if u = true then (9218868437227405312, true) else if d = true then (18442240474082181120, true) else (0, false)
set_option maxHeartbeats 4000000 in
theorem special_any (sa : Option Addr) (N ca : Nat) (zs : List Nat) (hN : N ≤ 17592186043904) (w : World) (ha : FltAt w.heap.size w (.slice sa N ca) zs) :
    Calls Tryz.prog 37 #[.slice sa N ca] w fun r w' => r = .returned (.tuple #[.float .f64 (spec3 (naL zs) (upL zs) (dnL zs)).1, .bool (spec3 (naL zs) (upL zs) (dnL zs)).2]) ∧ w' = w := by
  have HA := hid ha.get
  have HE : Hid (zs.take N = zs) := List.take_of_length_le (by rw [ha.get.1]; exact Nat.le_refl _)
  have HI := hid (fun x s W hs => isinfS x s W hs)
  clear ha
  go_enter Tryz.func37, Tryz.ntmps37
  go_wp2_with fail
  go_loopw [4, 5, 6, 11] (fun u d n i wr => ∃ (k : Nat) (ub db nb : Bool), k ≤ N ∧ u = .bool ub ∧ d = .bool db ∧ n = .bool nb ∧ i = .int .i64 k ∧ Hid (ub = upL (zs.take k) ∧ db = dnL (zs.take k) ∧ nb = naL (zs.take k)) ∧ wr = w) (fun _ _ _ i _ => N - (intOf i).toNat)
  case atStart => exact ⟨0, false, false, false, Nat.zero_le _, rfl, rfl, rfl, rfl, ⟨rfl, rfl, rfl⟩, rfl⟩
  case round =>
    obtain ⟨k, ub, db, nb, hk, rfl, rfl, rfl, rfl, HB, rfl⟩ := hrel
    by_cases hlt : k < N
    · obtain ⟨b, off, rfl, hb1, hc1⟩ := HA.out.2 (by omega)
      have g1 := hc1 k hlt
      have HT : Hid (zs.take (k + 1) = zs.take k ++ [zs.getD k 0]) := take_next zs k (by rw [HA.out.1]; exact hlt)
      have HU : Hid ((ub || infB (zs.getD k 0) 1) = upL (zs.take (k + 1)) ∧ (db || infB (zs.getD k 0) (-1)) = dnL (zs.take (k + 1)) ∧ (nb || nanB (zs.getD k 0)) = naL (zs.take (k + 1))) := by
        rw [HT.out, HB.out.1, HB.out.2.1, HB.out.2.2]
        unfold upL dnL naL
        rw [any_snoc, any_snoc, any_snoc]
        exact ⟨rfl, rfl, rfl⟩
      obtain ⟨x, hxx⟩ : ∃ x, Hid (zs.getD k 0 = x) := ⟨_, rfl⟩
      rw [hxx.out] at g1 HU
      have hq : (FloatKind.f64.format.order x x != some .eq) = nanB x := rfl
      obtain ⟨ux, hux⟩ : ∃ b, Hid (infB x 1 = b) := ⟨_, rfl⟩
      obtain ⟨dx, hdx⟩ : ∃ b, Hid (infB x (-1) = b) := ⟨_, rfl⟩
      obtain ⟨nx, hnx⟩ : ∃ b, Hid (nanB x = b) := ⟨_, rfl⟩
      have HIX : Hid (∀ s W, s = 1 ∨ s = -1 → Calls Tryz.prog 68 #[.float .f64 x, .int .i64 s] W fun r w' => r = .returned (.bool (if s = 1 then ux else dx)) ∧ w' = W) := fun s W hs => by
        have := HI.out x s W hs
        rcases hs with rfl | rfl
        · rw [hux.out] at this; exact this
        · rw [hdx.out] at this; exact this
      rw [hux.out, hdx.out, hnx.out] at HU
      rw [hnx.out] at hq
      have hkI : (k : Int) < (N : Int) := by omega
      have hk0 : (0 : Int) ≤ (k : Int) := by omega
      clear hc1 hb1 HB
      cases ub <;> cases db <;> cases nb <;> simp only [Bool.false_or, Bool.true_or] at HU
      all_goals
        go_wp2_with (first | (go_at_call 68; refine (HIX.out _ _ (by simp)).mono ?_; rintro r w9 ⟨rfl, rfl⟩))
        refine ⟨⟨k + 1, _, _, _, by omega, rfl, rfl, rfl, by go_num, HU, trivial⟩, ?_⟩
        simp [intOf]; omega
    · obtain rfl : k = N := by omega
      rw [HE.out] at HB
      have HV : Hid (spec3 (naL zs) (upL zs) (dnL zs) = spec3 nb ub db) := by
        show _ = _
        rw [← HB.out.1, ← HB.out.2.1, ← HB.out.2.2]
      have HN := hid rNaNS
      have HP := hid Inf_posS
      have HM := hid Inf_negS
      clear HB
      cases ub <;> cases db <;> cases nb
      all_goals
        go_wp2_with (first | (go_at_call 69; refine (HN.out _).mono ?_; rintro r w9 ⟨rfl, rfl⟩) | (go_at_call 70; first | (with_reducible refine (HP.out _).mono ?_; (rintro r w9 ⟨rfl, rfl⟩)) | (with_reducible refine (HM.out _).mono ?_; (rintro r w9 ⟨rfl, rfl⟩))))
        go_ret2
        exact ⟨by rw [HV.out]; rfl, rfl⟩
end Go.Proofs.YtpjdmhidhllbkaaGreatDoor
