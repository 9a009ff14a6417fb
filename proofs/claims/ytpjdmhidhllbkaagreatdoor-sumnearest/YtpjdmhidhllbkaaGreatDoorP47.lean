
/- sum's allMinus, numberFor and Exact of finite numbers. -/
import Derived.Test.YtpjdmhidhllbkaaGreatDoorP46
import Derived.Test.YtpjdmhidhllbkaaGreatDoorP36
import Derived.Test.YtpjdmhidhllbkaaGreatDoorP44
import Derived.Test.YtpjdmhidhllbkaaGreatDoorP45
namespace Go.Proofs.YtpjdmhidhllbkaaGreatDoor
open Go.RowKit Go.IntWalk

/-- There are numbers, and all are -0. -/
def minusB (xs : List Nat) : Bool := !xs.isEmpty && xs.all fun x => x == 9223372036854775808
def exactN (xs : List Nat) (n : Nat) : Nat := if minusB xs = true then 9223372036854775808 else rndI (sumSv xs n) (-1074)
theorem ListAt.flt {w : World} {sa : Option Addr} {n cap : Nat} {xs : List Nat} (h : ListAt w sa n cap xs) : FltAt w.heap.size w (.slice sa n cap) xs := by
  obtain ⟨rfl, ⟨rfl, h1, rfl⟩ | ⟨h1, b, rfl, h2⟩⟩ := h
  · exact .inl ⟨by rw [h1], List.length_eq_zero_iff.1 h1⟩
  · exact .inr ⟨b, 0, cap, rfl, h2.1, h2.2⟩
theorem sign_wS (x : Nat) (hx : x < 18446744073709551616) : decide (wrap64 (x : Int) < 0) = decide (9223372036854775808 ≤ x) := by
  have e : wrap64 (x : Int) < 0 ↔ 9223372036854775808 ≤ x := by unfold wrap64; omega
  exact decide_eq_decide.2 e
theorem ret_boolS {a b : Bool} (h : a = b) : Ending.returned (.bool a) = .returned (.bool b) := by rw [h]
set_option maxHeartbeats 400000 in
theorem signbit_S (x : Nat) (w : World) (hx : x < 18446744073709551616) :
    Calls Tryz.prog 71 #[.float .f64 x] w fun r w' => r = .returned (.bool (decide (9223372036854775808 ≤ x))) ∧ w' = w := by
  have h1 := f64bits
  go_enter Tryz.func71, Tryz.ntmps71
  go_wp2
  go_ret
  exact ⟨ret_boolS (sign_wS x hx), rfl⟩
theorem order_zeroS (x : Nat) (hx : x < 18446744073709551616) : (FloatKind.f64.format.order x 0 != some .eq) = !decide (x % 9223372036854775808 = 0) := by
  rw [← order_zero x hx]
  rfl
theorem minus_stop (xs : List Nat) (k : Nat) (h : k < xs.length) (hne : xs.getD k 0 ≠ 9223372036854775808) : minusB xs = false := by
  unfold minusB
  cases c : (xs.all fun x => x == 9223372036854775808) with
  | false => simp
  | true =>
    have := List.all_eq_true.1 c _ (mem_get xs k h)
    exact absurd (eq_of_beq this) hne
theorem minus_all (xs : List Nat) (h : ∀ j, j < xs.length → xs.getD j 0 = 9223372036854775808) : minusB xs = decide (0 < xs.length) := by
  unfold minusB
  have : (xs.all fun x => x == 9223372036854775808) = true := by
    rw [List.all_eq_true]
    intro x hx
    obtain ⟨i, hi, rfl⟩ := List.getElem_of_mem hx
    have := h i hi
    rw [List.getD_eq_getElem?_getD, List.getElem?_eq_getElem hi] at this
    simpa using this
  rw [this]
  cases xs <;> simp
set_option maxHeartbeats 2000000 in
theorem allMinus_some (b off cap : Nat) (xs : List Nat) (hx : ∀ x ∈ xs, x < 18446744073709551616) (hreach : xs.length ≤ 17592186043904) (w : World) (hc : ∀ j, j < xs.length → w.cell? ⟨b, off + j, none⟩ = some (.float .f64 (xs.getD j 0))) :
    Calls Tryz.prog 83 #[.slice (some ⟨b, off, none⟩) xs.length cap] w fun e W' => e = .returned (.bool (minusB xs)) ∧ W' = w := by
  have HX := hid hx
  have HC := hid hc
  have HM := hid (minus_all xs)
  have HST := hid (minus_stop xs)
  clear hx hc
  obtain ⟨N, hN⟩ : ∃ N, Hid (xs.length = N) := ⟨_, rfl⟩
  rw [hN.out] at hreach HC HM HST ⊢
  obtain ⟨M, hM⟩ : ∃ M, Hid (minusB xs = M) := ⟨_, rfl⟩
  rw [hM.out] at HM HST ⊢
  go_enter Tryz.func83, Tryz.ntmps83
  go_wp2_with fail
  go_loopw [7] (fun i wr => ∃ k : Nat, k ≤ N ∧ i = .int .i64 k ∧ Hid (∀ j, j < k → xs.getD j 0 = 9223372036854775808) ∧ wr = w) (fun i _ => N - (intOf i).toNat)
  case atStart => exact ⟨0, Nat.zero_le _, rfl, fun j hj => absurd hj (Nat.not_lt_zero j), rfl⟩
  case round =>
    obtain ⟨k, hk, rfl, HZ, rfl⟩ := hrel
    by_cases hlt : k < N
    · have hck := HC.out k hlt
      have HXK : Hid (xs.getD k 0 < 18446744073709551616) := HX.out _ (mem_get xs k (by rw [hN.out]; exact hlt))
      have HSK := hid (HST.out k hlt)
      obtain ⟨x, hx⟩ : ∃ x, Hid (xs.getD k 0 = x) := ⟨_, rfl⟩
      rw [hx.out] at hck HXK HSK
      have hkI : (k : Int) < (N : Int) := by omega
      have hk0 : (0 : Int) ≤ (k : Int) := by omega
      have ho := order_zeroS x HXK.out
      have HSB := hid (fun (V : World) => signbit_S x V HXK.out)
      by_cases hz : x % 9223372036854775808 = 0
      · rw [decide_eq_true hz] at ho
        by_cases hs : 9223372036854775808 ≤ x
        · rw [decide_eq_true hs] at HSB
          have HE : Hid (x = 9223372036854775808) := by have := HXK.out; show x = _; omega
          clear hz hs
          go_wp2_with fail
          refine (HSB.out _).mono ?_
          rintro r w1 ⟨rfl, rfl⟩
          go_wp2
          refine ⟨⟨k + 1, by omega, by go_num, fun j hj => ?_, trivial⟩, ?_⟩
          · by_cases hjk : j < k
            · exact HZ.out j hjk
            · rw [show j = k by omega, hx.out]; exact HE.out
          · simp [intOf]; omega
        · rw [decide_eq_false hs] at HSB
          have HE : Hid (M = false) := HSK.out (by omega)
          clear hz hs
          go_wp2_with fail
          refine (HSB.out _).mono ?_
          rintro r w1 ⟨rfl, rfl⟩
          go_wp2
          go_ret
          exact ⟨ret_boolS HE.out.symm, rfl⟩
      · rw [decide_eq_false hz] at ho
        have HE : Hid (M = false) := HSK.out (by omega)
        clear hz
        go_wp2
        go_ret
        exact ⟨ret_boolS HE.out.symm, rfl⟩
    · obtain rfl : k = N := by omega
      have HE := HM.out HZ.out
      go_wp2
      go_ret
      exact ⟨ret_boolS (by rw [HE]), rfl⟩
set_option maxHeartbeats 1000000 in
theorem allMinus_nil (w : World) : Calls Tryz.prog 83 #[.slice none 0 0] w fun e W' => e = .returned (.bool false) ∧ W' = w := by
  go_enter Tryz.func83, Tryz.ntmps83
  go_wp2_with fail
  go_loopw [7] (fun i wr => i = .int .i64 0 ∧ wr = w) (fun _ _ => 0)
  case atStart => exact ⟨rfl, rfl⟩
  case round =>
    obtain ⟨rfl, rfl⟩ := hrel
    go_wp2
    go_ret
    exact ⟨rfl, rfl⟩
theorem allMinus_any (a : Option Addr) (len cap : Nat) (xs : List Nat) (hx : ∀ x ∈ xs, x < 18446744073709551616) (hreach : xs.length ≤ 17592186043904) (w : World) (hI : FltAt w.heap.size w (.slice a len cap) xs) :
    Calls Tryz.prog 83 #[.slice a len cap] w fun e W' => e = .returned (.bool (minusB xs)) ∧ W' = w := by
  rcases hI with ⟨h1, rfl⟩ | ⟨b, off, c, h1, hb, hc⟩
  · cases h1
    exact allMinus_nil w
  · cases h1
    exact allMinus_some b off cap xs hx hreach w hc
end Go.Proofs.YtpjdmhidhllbkaaGreatDoor

namespace Go.Proofs.YtpjdmhidhllbkaaGreatDoor
open Go.RowKit Go.IntWalk

theorem sum_size (xs : List Nat) (hf : FinL xs) (hn : xs.length ≤ 4096) : (sumSv xs xs.length).natAbs < 2 ^ (kN + 13) := by
  have h1 := sum_le xs hf xs.length (Nat.le_refl _)
  rw [Nat.pow_add]
  have h0 : 0 < 2 ^ kN := Nat.two_pow_pos _
  generalize 2 ^ kN = P at h0 h1
  have h2 : xs.length * P ≤ 4096 * P := Nat.mul_le_mul_right _ hn
  omega
theorem neg_one : signN true 4607182418800017408 = 13830554455654793216 ∧ signN true 0 = 9223372036854775808 := by decide
set_option maxHeartbeats 1000000 in
theorem numberFor_any (neg : Bool) (a : Option Addr) (n cap : Nat) (e' z e : Int) (sa : Option Addr) (len sc : Nat) (xs : List Nat) (w : World) (hx : ∀ x ∈ xs, x < 18446744073709551616) (hreach : xs.length ≤ 17592186043904) (hI : FltAt w.heap.size w (.slice sa len sc) xs) (N : Nat) (h : DyAt w neg a n cap e' z e) (hz : z.natAbs < 2 ^ N) (hN : e + (N : Int) ≤ 2900) (hN2 : N ≤ 6400) (he1 : -3000 ≤ e) (hT : Tab w) (hg : 2 < w.heap.size) :
    Calls Tryz.prog 44 #[.agg #[.bool neg, .slice a n cap, .int .i64 e'], .slice sa len sc] w fun r w' => r = .returned (.tuple #[.float .f64 (if minusB xs = true then 9223372036854775808 else rndI z e), .int .i64 0]) ∧ Below w.heap.size w w' := by
  have hal : Below w.heap.size w (w.alloc (DyBox neg a n cap e')) := (Below.refl _ _).alloc (Nat.le_refl _) _
  have HB0 := hid hal
  have HD : Hid (∀ W, Below w.heap.size w W → Calls Tryz.prog 57 #[.agg #[.bool neg, .slice a n cap, .int .i64 e'], .int .i64 0] W fun r w' => r = .returned (.tuple #[.float .f64 (rndI z e), .int .i64 0]) ∧ Below W.heap.size W w') := fun W hW => by
    obtain ⟨L, h1, h2, h3, h4⟩ := h
    exact Round0_dy neg a n cap N e' z e W ⟨L, h1, h2, h3.below hW, h4⟩ hz hN hN2 he1 (hT.below hg hW) (Nat.lt_of_lt_of_le hg hW.size)
  have HM : Hid (∀ W, Below w.heap.size w W → Calls Tryz.prog 83 #[.slice sa len sc] W fun r w' => r = .returned (.bool (minusB xs)) ∧ w' = W) := fun W hW => by
    refine allMinus_any sa len sc xs hx hreach W ?_
    rcases hI.below hW with h | ⟨b, off, c, h1, h2, h3⟩
    · exact .inl h
    · exact .inr ⟨b, off, c, h1, Nat.lt_of_lt_of_le h2 hW.size, h3⟩
  have hbx := new_blk w (DyBox neg a n cap e') w.heap.size rfl
  obtain ⟨c0, c1, c2⟩ := dcells_of hbx
  have HMW := hid (HM.out _ hal)
  have HDW := hid (HD.out _ hal)
  have HCS : Hid (∀ W, Calls Tryz.prog 39 #[.float .f64 0, .float .f64 13830554455654793216] W fun e w' => e = .returned (.float .f64 9223372036854775808) ∧ w' = W) := fun W => by
    have := copysign_any 0 true 4607182418800017408 W (by decide) (by decide)
    rw [neg_one.1, neg_one.2] at this
    exact this
  obtain ⟨W0, hW0⟩ : ∃ V, Hid (w.alloc (DyBox neg a n cap e') = V) := ⟨_, rfl⟩
  rw [hW0.out] at HB0 c0 c1 c2 HMW HDW
  unfold DyBox at hW0
  have hW0' := hW0.out
  obtain ⟨R, hR⟩ : ∃ R, Hid (rndI z e = R) := ⟨_, rfl⟩
  rw [hR.out] at HDW ⊢
  clear h hz hN hN2 he1 hT hg hx hreach hI HD HM hal hbx
  by_cases hm : minusB xs = true
  · rw [hm] at HMW
    rw [if_pos hm]
    clear hm
    go_enter Tryz.func44, Tryz.ntmps44
    go_wp2_with fail
    refine HMW.out.mono ?_
    rintro r w1 ⟨rfl, rfl⟩
    go_wp2_with fail
    refine (HCS.out _).mono ?_
    rintro r w2 ⟨rfl, rfl⟩
    go_wp2
    go_ret2
    exact ⟨rfl, HB0.out⟩
  · have hm' : minusB xs = false := by revert hm; cases minusB xs <;> simp
    rw [hm'] at HMW
    rw [if_neg hm]
    clear hm hm'
    go_enter Tryz.func44, Tryz.ntmps44
    go_wp2_with fail
    refine HMW.out.mono ?_
    rintro r w1 ⟨rfl, rfl⟩
    go_wp2_with fail
    refine HDW.out.mono ?_
    rintro r w2 ⟨rfl, hb2⟩
    have HB2 := hid (HB0.out.trans (hb2.mono HB0.out.size))
    clear hb2
    go_wp2
    go_ret2
    exact ⟨rfl, HB2.out⟩
theorem Finite_list (sa : Option Addr) (n cap : Nat) (xs : List Nat) (w : World) (hl : ListAt w sa n cap xs) (hb : ∀ x ∈ xs, x < 18446744073709551616) (hn : n ≤ 17592186043904) :
    Calls Tryz.prog 41 #[.slice sa n cap] w fun r w' => r = .returned (.bool (allFin xs)) ∧ Below w.heap.size w w' := by
  obtain ⟨rfl, h⟩ := hl
  rcases h with ⟨rfl, h0, rfl⟩ | ⟨h0, b, rfl, hm⟩
  · have hx : xs = [] := List.length_eq_zero_iff.1 h0
    subst hx
    exact Finite_nil w
  · exact Finite_any xs b 0 cap w hm.1 hm.2 (bit_iff xs hb) (by omega)
set_option maxHeartbeats 2000000 in
/-- sum.Exact of finite numbers. -/
theorem Exact_fin (sa : Option Addr) (n cap : Nat) (xs : List Nat) (w : World) (hl : ListAt w sa n cap xs) (hb : ∀ x ∈ xs, x < 18446744073709551616) (hn : n ≤ 4096) (hf : allFin xs = true) (hT : Tab w) (hg : 2 < w.heap.size) (hT3 : Tab32 w) (hs : 1 < w.heap.size) :
    Calls Tryz.prog 8 #[.slice sa n cap] w fun r w' => r = .returned (.tuple #[.float .f64 (exactN xs n), .int .i64 0]) ∧ Below w.heap.size w w' := by
  have HF := hid (Finite_list sa n cap xs w hl hb (by omega))
  rw [hf] at HF
  have HS : Hid (∀ W, Below w.heap.size w W → Calls Tryz.prog 43 #[.slice sa n cap] W fun r w' => ∃ neg a k c e', r = .returned (.tuple #[.agg #[.bool neg, .slice a k c, .int .i64 e'], .int .i64 0]) ∧ Hid (DyAt w' neg a k c e' (sumSv xs n) (-1074)) ∧ Below W.heap.size W w') := fun W hW => by
    refine (Sum_list sa n cap xs W (hl.below hW) hb (by omega) (hT.below hg hW) (Nat.lt_of_lt_of_le hg hW.size) (hT3.below hs hW) (Nat.lt_of_lt_of_le hs hW.size)).mono ?_
    rintro r w' ⟨neg, a, k, c, e', E, rfl, h1, _, h3⟩
    obtain ⟨rfl, h4⟩ := h1 hf
    exact ⟨neg, a, k, c, e', rfl, h4, h3⟩
  have HN : Hid (∀ W neg a k c e', Below w.heap.size w W → DyAt W neg a k c e' (sumSv xs n) (-1074) → Calls Tryz.prog 44 #[.agg #[.bool neg, .slice a k c, .int .i64 e'], .slice sa n cap] W fun r w' => r = .returned (.tuple #[.float .f64 (exactN xs n), .int .i64 0]) ∧ Below W.heap.size W w') := fun W neg a k c e' hW hd => by
    have hz := sum_size xs (fin_iff xs hb hf) (by rw [hl.1]; exact hn)
    rw [hl.1] at hz
    exact numberFor_any neg a k c e' (sumSv xs n) (-1074) sa n cap xs W hb (by rw [hl.1]; omega) (hl.below hW).flt (kN + 13) hd hz (by have := kN_is; omega) (by have := kN_is; omega) (by decide) (hT.below hg hW) (Nat.lt_of_lt_of_le hg hW.size)
  obtain ⟨R, hR⟩ : ∃ R, Hid (exactN xs n = R) := ⟨_, rfl⟩
  rw [hR.out] at HN ⊢
  have hnI : (n : Int) ≤ 4096 := by omega
  clear hl hb hf hT hg hT3 hs
  go_enter Tryz.func8, Tryz.ntmps8
  go_wp2_with fail
  refine HF.out.mono ?_
  rintro r w1 ⟨rfl, hb1⟩
  have HB1 := hid hb1
  clear hb1
  go_wp2_with fail
  refine (HS.out _ HB1.out).mono ?_
  rintro r w2 ⟨neg, a, k, c, e', rfl, HD, hb2⟩
  have HB2 := hid (HB1.out.trans (hb2.mono HB1.out.size))
  have hal : Below w2.heap.size w2 (w2.alloc (DyBox neg a k c e')) := (Below.refl _ _).alloc (Nat.le_refl _) _
  have HBV := hid (HB2.out.trans (hal.mono HB2.out.size))
  obtain ⟨c0, c1, c2⟩ := dcells_of (new_blk w2 (DyBox neg a k c e') w2.heap.size rfl)
  have HDV : Hid (DyAt (w2.alloc (DyBox neg a k c e')) neg a k c e' (sumSv xs n) (-1074)) := by
    obtain ⟨L, h1, h2, h3, h4⟩ := HD.out
    exact ⟨L, h1, h2, h3.below hal, h4⟩
  obtain ⟨V, hV⟩ : ∃ V, Hid (w2.alloc (DyBox neg a k c e') = V) := ⟨_, rfl⟩
  rw [hV.out] at HBV c0 c1 c2 HDV
  unfold DyBox at hV
  have hV' := hV.out
  clear hb2 hal
  go_wp2_with fail
  refine (HN.out _ _ _ _ _ _ HBV.out HDV.out).mono ?_
  rintro r w3 ⟨rfl, hb3⟩
  have HB3 := hid (HBV.out.trans (hb3.mono HBV.out.size))
  clear hb3
  go_wp2
  go_ret2
  exact ⟨rfl, HB3.out⟩
end Go.Proofs.YtpjdmhidhllbkaaGreatDoor

namespace Go.Proofs.YtpjdmhidhllbkaaGreatDoor
open Go.RowKit Go.IntWalk

theorem bt100 : bits .andNot .u64 4607182418800017408 9223372036854775808 = 4607182418800017408 ∧ bits .and .i64 1023 2047 = 1023 ∧ bits .andNot .u64 4607182418800017408 9218868437227405312 = 0 ∧ bits .or .u64 0 5057542381537067008 = 5057542381537067008 := by decide +kernel
set_option maxHeartbeats 1000000 in
theorem ldexp_100 (w : World) : Calls Tryz.prog 91 #[.float .f64 4607182418800017408, .int .i64 100] w fun r w' => r = .returned (.float .f64 5057542381537067008) ∧ w' = w := by
  obtain ⟨g1, g2, g3, g4⟩ := o1
  obtain ⟨b1, b2, b3, b4⟩ := bt100
  have h1 := f64bits
  have h2 := f64fromI3
  have hm := f_mul (x := 4607182418800017408) (y := 5057542381537067008) (z := 5057542381537067008) (by decide +kernel)
  have c0 : wrap64 0 = 0 := by decide +kernel
  have c1 : wrap64 100 = 100 := by decide +kernel
  go_enter Tryz.func91, Tryz.ntmps91
  go_wp2
  go_ret
  exact ⟨rfl, rfl⟩
set_option maxHeartbeats 1000000 in
theorem Ldexp_100 (w : World) : Calls Tryz.prog 53 #[.float .f64 4607182418800017408, .int .i64 100] w fun r w' => r = .returned (.float .f64 5057542381537067008) ∧ w' = w := by
  go_enter Tryz.func53, Tryz.ntmps53
  go_wp2_with fail
  refine (ldexp_100 _).mono ?_
  rintro r w1 ⟨rfl, rfl⟩
  go_wp2
  go_ret
  exact ⟨rfl, rfl⟩
def ex4 : List Nat := [4607182418800017408, 5057542381537067008, 4607182418800017408, 14280914418391842816]
def ex2 : List Nat := [4607182418800017408, 4611686018427387904]
theorem ex4_neu : neuC ex4 = 4611686018427387904 := by decide +kernel
theorem ex2_sum : sumC ex2 = 4613937818241073152 := by decide +kernel
theorem ex4_fin : allFin ex4 = true ∧ minusB ex4 = false := by decide +kernel
theorem ex4_exact : exactN ex4 4 = 4611686018427387904 := by
  unfold exactN
  rw [ex4_fin.2, if_neg (by simp)]
  have h : sumSv ex4 4 = sv 4611686018427387904 := by decide +kernel
  rw [h]
  decide +kernel
theorem fneg_big : Op.unary .neg (.float .f64 5057542381537067008) = pure (.float .f64 14280914418391842816) := by
  show pure (Value.float .f64 (5057542381537067008 ^^^ 9223372036854775808)) = _
  rw [show (5057542381537067008 ^^^ 9223372036854775808 : Nat) = 14280914418391842816 by decide +kernel]
theorem eqs5 : (FloatKind.f64.format.order 4611686018427387904 4611686018427387904 == some .eq) = true ∧ (FloatKind.f64.format.order 4613937818241073152 4613937818241073152 == some .eq) = true := by decide +kernel
theorem ex4_lt : ∀ x ∈ ex4, x < 18446744073709551616 := by decide
theorem ex2_lt : ∀ x ∈ ex2, x < 18446744073709551616 := by decide
theorem list4 (W : World) (b : Nat) (x0 x1 x2 x3 : Nat) (h : W.heap[b]? = some (.cells #[.float .f64 x0, .float .f64 x1, .float .f64 x2, .float .f64 x3] 25)) : ListAt W (some ⟨b, 0, none⟩) 4 4 [x0, x1, x2, x3] := by
  refine ⟨rfl, .inr ⟨by decide, b, rfl, (Array.getElem?_eq_some_iff.1 h).1, fun i hi => ?_⟩⟩
  match i, hi with
  | 0, _ => simp [World.cell?, h]
  | 1, _ => simp [World.cell?, h]
  | 2, _ => simp [World.cell?, h]
  | 3, _ => simp [World.cell?, h]
theorem list2 (W : World) (b : Nat) (x0 x1 : Nat) (h : W.heap[b]? = some (.cells #[.float .f64 x0, .float .f64 x1] 25)) : ListAt W (some ⟨b, 0, none⟩) 2 2 [x0, x1] := by
  refine ⟨rfl, .inr ⟨by decide, b, rfl, (Array.getElem?_eq_some_iff.1 h).1, fun i hi => ?_⟩⟩
  match i, hi with
  | 0, _ => simp [World.cell?, h]
  | 1, _ => simp [World.cell?, h]
set_option maxHeartbeats 1000000 in
/-- Chapter 5's first examples. -/
theorem awake5_any (w : World) (hT : Tab w) (hg : 2 < w.heap.size) (hT3 : Tab32 w) (hs : 1 < w.heap.size) :
    Calls Tryz.prog 21 #[] w fun r w' => r = .returned (.bool true) ∧ Below w.heap.size w w' := by
  have HX : Hid (∀ W b, Below w.heap.size w W → W.heap[b]? = some (.cells #[.float .f64 4607182418800017408, .float .f64 5057542381537067008, .float .f64 4607182418800017408, .float .f64 14280914418391842816] 25) → Calls Tryz.prog 8 #[.slice (some ⟨b, 0, none⟩) 4 4] W fun r w' => r = .returned (.tuple #[.float .f64 4611686018427387904, .int .i64 0]) ∧ Below W.heap.size W w') := fun W b hW hc => by
    have := Exact_fin (some ⟨b, 0, none⟩) 4 4 ex4 W (list4 W b _ _ _ _ hc) ex4_lt (by decide) ex4_fin.1 (hT.below hg hW) (Nat.lt_of_lt_of_le hg hW.size) (hT3.below hs hW) (Nat.lt_of_lt_of_le hs hW.size)
    rw [ex4_exact] at this
    exact this
  have HN : Hid (∀ W b, W.heap[b]? = some (.cells #[.float .f64 4607182418800017408, .float .f64 5057542381537067008, .float .f64 4607182418800017408, .float .f64 14280914418391842816] 25) → Calls Tryz.prog 18 #[.slice (some ⟨b, 0, none⟩) 4 4] W fun r w' => r = .returned (.float .f64 4611686018427387904) ∧ Below W.heap.size W w') := fun W b hc => by
    have := Neum_any (some ⟨b, 0, none⟩) 4 4 ex4 ex4_lt (by decide) W (list4 W b _ _ _ _ hc).flt
    rw [ex4_neu] at this
    exact this
  have HL : Hid (∀ W b, W.heap[b]? = some (.cells #[.float .f64 4607182418800017408, .float .f64 4611686018427387904] 25) → Calls Tryz.prog 12 #[.slice (some ⟨b, 0, none⟩) 2 2] W fun r w' => r = .returned (.float .f64 4613937818241073152) ∧ Below W.heap.size W w') := fun W b hc => by
    have := Left_any (some ⟨b, 0, none⟩) 2 2 ex2 ex2_lt (by decide) W (list2 W b _ _ hc).flt
    rw [ex2_sum] at this
    exact this
  have hng := fneg_big
  obtain ⟨q1, q2⟩ := eqs5
  clear hT hg hT3 hs
  go_enter Tryz.func21, Tryz.ntmps21
  go_wp2_with fail
  refine (Ldexp_100 _).mono ?_
  rintro r w1 ⟨rfl, rfl⟩
  go_wp2_with fail
  refine (HX.out _ _ ((Below.refl _ _).alloc (Nat.le_refl _) _) (new_blk _ _ _ rfl)).mono ?_
  rintro r w2 ⟨rfl, hb2⟩
  have HB2 := hid (((Below.refl w1.heap.size w1).alloc (Nat.le_refl _) _).trans (hb2.mono (by simp)))
  clear hb2
  go_wp2_with fail
  refine (HL.out _ _ (new_blk _ _ _ rfl)).mono ?_
  rintro r w3 ⟨rfl, hb3⟩
  have HB3 := hid ((HB2.out.alloc HB2.out.size _).trans (hb3.mono (by have := HB2.out.size; simp; omega)))
  clear hb3
  go_wp2_with fail
  refine (HN.out _ _ (new_blk _ _ _ rfl)).mono ?_
  rintro r w4 ⟨rfl, hb4⟩
  have HB4 := hid ((HB3.out.alloc HB3.out.size _).trans (hb4.mono (by have := HB3.out.size; simp; omega)))
  clear hb4
  go_wp2
  go_ret
  exact ⟨rfl, HB4.out⟩
end Go.Proofs.YtpjdmhidhllbkaaGreatDoor

namespace Go.Proofs.YtpjdmhidhllbkaaGreatDoor
open Go.RowKit Go.IntWalk

def kJ : Nat := 2044
theorem kJ_is : kJ = 2044 := rfl
theorem pow_s (n : Nat) : 2 ^ (n + 1) = 2 ^ n * 2 := Nat.pow_succ 2 n
theorem max_nv : nv 9218868437227405311 = 9007199254740991 * 2 ^ (kJ + 1) := by
  have h := nv_word (kJ + 1) 9007199254740991 (by decide) (fun _ => by decide)
  rw [show ((kJ + 1) * 4503599627370496 + 9007199254740991 : Nat) = 9218868437227405311 by decide] at h
  exact h
theorem far_nat (V : Nat) (h0 : V ≠ 0) (h : ¬ rndM V (-1074) < 9218868437227405312) : 9007199254740991 * 2 ^ (kJ + 1) + 2 ^ kJ ≤ V := by
  have hm := rn_min V h0
  unfold rnR at hm
  have hq := quo_full V
  have hs := step_near V (dN V)
  obtain ⟨s1, s2, s3, s4⟩ := hs
  have hst : stepN V (dN V) 0 false ≤ 9007199254740992 := by
    rcases s4 with e | ⟨e, _⟩ <;> rw [e] <;> omega
  have hS : 2045 ≤ dN V := by omega
  obtain ⟨t, ht⟩ : ∃ t, dN V = kJ + 1 + t := ⟨dN V - 2045, by have := kJ_is; omega⟩
  have hP : 0 < 2 ^ kJ := Nat.two_pow_pos _
  have e1 : 2 ^ (kJ + 1) = 2 ^ kJ * 2 := pow_s kJ
  by_cases c : t = 0
  · rw [c, Nat.add_zero] at ht
    have hst2 : stepN V (dN V) 0 false = 9007199254740992 := by have := kJ_is; omega
    rw [hst2, ht] at s1
    rw [e1] at s1 ⊢
    generalize 2 ^ kJ = P at s1 hP
    omega
  · have h1 := hq.1 (by omega)
    have h2 : 4503599627370496 * 2 ^ dN V ≤ V := by
      have := Nat.div_mul_le_self V (2 ^ dN V)
      have h3 : 4503599627370496 * 2 ^ dN V ≤ V / 2 ^ dN V * 2 ^ dN V := Nat.mul_le_mul_right _ h1
      omega
    obtain ⟨u, hu⟩ : ∃ u, t = u + 1 := ⟨t - 1, by omega⟩
    have e2 : 2 ^ dN V = 2 ^ kJ * 4 * 2 ^ u := by
      rw [ht, hu, show kJ + 1 + (u + 1) = kJ + 2 + u by omega, Nat.pow_add, Nat.pow_add]
    have hu0 : 0 < 2 ^ u := Nat.two_pow_pos _
    rw [e2] at h2
    have h4 : 2 ^ kJ * 4 * 1 ≤ 2 ^ kJ * 4 * 2 ^ u := Nat.mul_le_mul_left _ hu0
    have h5 : 4503599627370496 * (2 ^ kJ * 4 * 1) ≤ 4503599627370496 * (2 ^ kJ * 4 * 2 ^ u) := Nat.mul_le_mul_left _ h4
    rw [e1]
    generalize 2 ^ kJ = P at *
    omega
theorem minus_sum (xs : List Nat) (h : minusB xs = true) : ∀ k, k ≤ xs.length → sumSv xs k = 0
  | 0, _ => rfl
  | k + 1, hk => by
    have ih := minus_sum xs h k (by omega)
    show sumSv xs k + sv (xs.getD k 0) = 0
    have : xs.getD k 0 = 9223372036854775808 := by
      unfold minusB at h
      have h2 := (Bool.and_eq_true_iff.1 h).2
      have := List.all_eq_true.1 h2 _ (mem_get xs k (by omega))
      exact eq_of_beq this
    rw [ih, this]
    decide +kernel
theorem rnd_mod (z : Int) : rndI z (-1074) % 9223372036854775808 = rndM z.natAbs (-1074) ∧ rndI z (-1074) < 18446744073709551616 := by
  have h := (near_rnd false z.natAbs (-1074)).2
  unfold rndI
  have h1 := signN_mod (decide (z < 0)) (rndM z.natAbs (-1074)) (by omega)
  exact ⟨h1.1, h1.2.2⟩
theorem exactN_lt (xs : List Nat) (n : Nat) : exactN xs n < 18446744073709551616 ∧ exactN xs n % 9223372036854775808 ≤ 9218868437227405312 := by
  unfold exactN
  split
  · decide
  · exact ⟨(rnd_mod _).2, by rw [(rnd_mod _).1]; exact (near_rnd false _ _).2⟩
/-- No number is nearer. -/
theorem near_law (xs : List Nat) (n o : Nat) (hn : n ≤ xs.length) (hf : exactN xs n % 9223372036854775808 < 9218868437227405312) : (sumSv xs n + -sv (exactN xs n)).natAbs ≤ (sumSv xs n + -sv o).natAbs := by
  unfold exactN at hf ⊢
  by_cases c : minusB xs = true
  · rw [if_pos c, minus_sum xs c n hn]
    have : sv 9223372036854775808 = 0 := by decide +kernel
    rw [this]
    omega
  · rw [if_neg c] at hf ⊢
    rw [(rnd_mod _).1] at hf
    have h1 := sv_rz (decide (sumSv xs n < 0)) (sumSv xs n) hf (fun _ => rfl)
    have h2 := rz_near (sumSv xs n) (sv o) (Fz_sv o)
    have h3 : sv (rndI (sumSv xs n) (-1074)) = rz (sumSv xs n) := h1
    rw [h3]
    omega
/-- An infinity only from half a step beyond the greatest number on, of the sum's sign. -/
theorem far_law (xs : List Nat) (n : Nat) (hf : ¬ exactN xs n % 9223372036854775808 < 9218868437227405312) : sv 9218868437227405311 + ((2 ^ kJ : Nat) : Int) ≤ ((sumSv xs n).natAbs : Int) ∧ ((exactN xs n = 9218868437227405312 ∧ 0 < sumSv xs n) ∨ (exactN xs n = 18442240474082181120 ∧ sumSv xs n < 0)) := by
  unfold exactN at hf ⊢
  by_cases c : minusB xs = true
  · rw [if_pos c] at hf
    exact absurd (by decide) hf
  · rw [if_neg c] at hf ⊢
    rw [(rnd_mod _).1] at hf
    have h0 : (sumSv xs n).natAbs ≠ 0 := fun h => hf (by rw [h]; unfold rndM; rw [if_pos rfl]; decide)
    have h1 := far_nat _ h0 hf
    have h2 : sv 9218868437227405311 = (nv 9218868437227405311 : Int) := by unfold sv; rw [if_neg (by decide)]
    have h3 := (near_rnd false (sumSv xs n).natAbs (-1074)).2
    have h4 : rndM (sumSv xs n).natAbs (-1074) = 9218868437227405312 := by omega
    refine ⟨by rw [h2, max_nv]; omega, ?_⟩
    unfold rndI
    rw [h4]
    by_cases s : sumSv xs n < 0
    · right
      rw [decide_eq_true s]
      exact ⟨by decide, s⟩
    · left
      rw [decide_eq_false s]
      exact ⟨by decide, by omega⟩
end Go.Proofs.YtpjdmhidhllbkaaGreatDoor
