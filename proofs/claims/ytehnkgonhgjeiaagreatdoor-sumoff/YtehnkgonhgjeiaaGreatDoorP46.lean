
/- sum's allMinus, numberFor and Exact of finite numbers. -/
import Derived.Test.YtehnkgonhgjeiaaGreatDoorP45
import Derived.Test.YtehnkgonhgjeiaaGreatDoorP34
import Derived.Test.YtehnkgonhgjeiaaGreatDoorP42
import Derived.Deep.OwnRows
import Derived.Test.YtehnkgonhgjeiaaGreatDoorP4
import Derived.Deep.RegionHeld3
import Derived.Test.YtehnkgonhgjeiaaGreatDoorP44
import Derived.Maps.AppendAt
import Derived.Test.YtehnkgonhgjeiaaGreatDoorP40
namespace Go.Proofs.YtehnkgonhgjeiaaGreatDoor
open Go.RowKit Go.IntWalk

/-- There are numbers, and all are -0. -/
def minusB (xs : List Nat) : Bool := !xs.isEmpty && xs.all fun x => x == 9223372036854775808
def exactN (xs : List Nat) (n : Nat) : Nat := if minusB xs = true then 9223372036854775808 else rndI (sumSv xs n) (-1074)
theorem ListAt.flt {w : World} {sa : Option Addr} {n cap : Nat} {xs : List Nat} (h : ListAt w sa n cap xs) : FltAt w.heap.size w (.slice sa n cap) xs := by
  obtain ⟨rfl, ⟨rfl, h1, rfl⟩ | ⟨h1, b, rfl, h2⟩⟩ := h
  · exact .inl ⟨by rw [h1], List.length_eq_zero_iff.1 h1⟩
  · exact .inr ⟨b, 0, cap, rfl, h2.1, h2.2⟩
theorem sign_wS (x : Nat) (hx : x < 18446744073709551616) : decide (wrap64 (x : Int) < 0) = decide (9223372036854775808 ≤ x) := by
  have e : wrap64 (x : Int) < 0 ↔ 9223372036854775808 ≤ x := by unfold wrap64; omega
  exact decide_eq_decide.2 e
theorem ret_boolS {a b : Bool} (h : a = b) : Ending.returned (.bool a) = .returned (.bool b) := by rw [h]
set_option maxHeartbeats 400000 in
theorem signbit_S (x : Nat) (w : World) (hx : x < 18446744073709551616) :
    Calls Tryz.prog 90 #[.float .f64 x] w fun r w' => r = .returned (.bool (decide (9223372036854775808 ≤ x))) ∧ w' = w := by
  have h1 := f64bits
  go_enter Tryz.func90, Tryz.ntmps90
  go_wp2
  go_ret
  exact ⟨ret_boolS (sign_wS x hx), rfl⟩
theorem order_zeroS (x : Nat) (hx : x < 18446744073709551616) : (FloatKind.f64.format.order x 0 != some .eq) = !decide (x % 9223372036854775808 = 0) := by
  rw [← order_zero x hx]
  rfl
theorem minus_stop (xs : List Nat) (k : Nat) (h : k < xs.length) (hne : xs.getD k 0 ≠ 9223372036854775808) : minusB xs = false := by
  unfold minusB
  cases c : (xs.all fun x => x == 9223372036854775808) with
  | false => simp
  | true =>
    have := List.all_eq_true.1 c _ (mem_get xs k h)
    exact absurd (eq_of_beq this) hne
theorem minus_all (xs : List Nat) (h : ∀ j, j < xs.length → xs.getD j 0 = 9223372036854775808) : minusB xs = decide (0 < xs.length) := by
  unfold minusB
  have : (xs.all fun x => x == 9223372036854775808) = true := by
    rw [List.all_eq_true]
    intro x hx
    obtain ⟨i, hi, rfl⟩ := List.getElem_of_mem hx
    have := h i hi
    rw [List.getD_eq_getElem?_getD, List.getElem?_eq_getElem hi] at this
    simpa using this
  rw [this]
  cases xs <;> simp
set_option maxHeartbeats 2000000 in
theorem allMinus_some (b off cap : Nat) (xs : List Nat) (hx : ∀ x ∈ xs, x < 18446744073709551616) (hreach : xs.length ≤ 17592186043904) (w : World) (hc : ∀ j, j < xs.length → w.cell? ⟨b, off + j, none⟩ = some (.float .f64 (xs.getD j 0))) :
    Calls Tryz.prog 100 #[.slice (some ⟨b, off, none⟩) xs.length cap] w fun e W' => e = .returned (.bool (minusB xs)) ∧ W' = w := by
  have HX := hid hx
  have HC := hid hc
  have HM := hid (minus_all xs)
  have HST := hid (minus_stop xs)
  clear hx hc
  obtain ⟨N, hN⟩ : ∃ N, Hid (xs.length = N) := ⟨_, rfl⟩
  rw [hN.out] at hreach HC HM HST ⊢
  obtain ⟨M, hM⟩ : ∃ M, Hid (minusB xs = M) := ⟨_, rfl⟩
  rw [hM.out] at HM HST ⊢
  go_enter Tryz.func100, Tryz.ntmps100
  go_wp2_with fail
  go_loopw [7] (fun i wr => ∃ k : Nat, k ≤ N ∧ i = .int .i64 k ∧ Hid (∀ j, j < k → xs.getD j 0 = 9223372036854775808) ∧ wr = w) (fun i _ => N - (intOf i).toNat)
  case atStart => exact ⟨0, Nat.zero_le _, rfl, fun j hj => absurd hj (Nat.not_lt_zero j), rfl⟩
  case round =>
    obtain ⟨k, hk, rfl, HZ, rfl⟩ := hrel
    by_cases hlt : k < N
    · have hck := HC.out k hlt
      have HXK : Hid (xs.getD k 0 < 18446744073709551616) := HX.out _ (mem_get xs k (by rw [hN.out]; exact hlt))
      have HSK := hid (HST.out k hlt)
      obtain ⟨x, hx⟩ : ∃ x, Hid (xs.getD k 0 = x) := ⟨_, rfl⟩
      rw [hx.out] at hck HXK HSK
      have hkI : (k : Int) < (N : Int) := by omega
      have hk0 : (0 : Int) ≤ (k : Int) := by omega
      have ho := order_zeroS x HXK.out
      have HSB := hid (fun (V : World) => signbit_S x V HXK.out)
      by_cases hz : x % 9223372036854775808 = 0
      · rw [decide_eq_true hz] at ho
        by_cases hs : 9223372036854775808 ≤ x
        · rw [decide_eq_true hs] at HSB
          have HE : Hid (x = 9223372036854775808) := by have := HXK.out; show x = _; omega
          clear hz hs
          go_wp2_with fail
          refine (HSB.out _).mono ?_
          rintro r w1 ⟨rfl, rfl⟩
          go_wp2
          refine ⟨⟨k + 1, by omega, by go_num, fun j hj => ?_, trivial⟩, ?_⟩
          · by_cases hjk : j < k
            · exact HZ.out j hjk
            · rw [show j = k by omega, hx.out]; exact HE.out
          · simp [intOf]; omega
        · rw [decide_eq_false hs] at HSB
          have HE : Hid (M = false) := HSK.out (by omega)
          clear hz hs
          go_wp2_with fail
          refine (HSB.out _).mono ?_
          rintro r w1 ⟨rfl, rfl⟩
          go_wp2
          go_ret
          exact ⟨ret_boolS HE.out.symm, rfl⟩
      · rw [decide_eq_false hz] at ho
        have HE : Hid (M = false) := HSK.out (by omega)
        clear hz
        go_wp2
        go_ret
        exact ⟨ret_boolS HE.out.symm, rfl⟩
    · obtain rfl : k = N := by omega
      have HE := HM.out HZ.out
      go_wp2
      go_ret
      exact ⟨ret_boolS (by rw [HE]), rfl⟩
set_option maxHeartbeats 1000000 in
theorem allMinus_nil (w : World) : Calls Tryz.prog 100 #[.slice none 0 0] w fun e W' => e = .returned (.bool false) ∧ W' = w := by
  go_enter Tryz.func100, Tryz.ntmps100
  go_wp2_with fail
  go_loopw [7] (fun i wr => i = .int .i64 0 ∧ wr = w) (fun _ _ => 0)
  case atStart => exact ⟨rfl, rfl⟩
  case round =>
    obtain ⟨rfl, rfl⟩ := hrel
    go_wp2
    go_ret
    exact ⟨rfl, rfl⟩
theorem allMinus_any (a : Option Addr) (len cap : Nat) (xs : List Nat) (hx : ∀ x ∈ xs, x < 18446744073709551616) (hreach : xs.length ≤ 17592186043904) (w : World) (hI : FltAt w.heap.size w (.slice a len cap) xs) :
    Calls Tryz.prog 100 #[.slice a len cap] w fun e W' => e = .returned (.bool (minusB xs)) ∧ W' = w := by
  rcases hI with ⟨h1, rfl⟩ | ⟨b, off, c, h1, hb, hc⟩
  · cases h1
    exact allMinus_nil w
  · cases h1
    exact allMinus_some b off cap xs hx hreach w hc
end Go.Proofs.YtehnkgonhgjeiaaGreatDoor

namespace Go.Proofs.YtehnkgonhgjeiaaGreatDoor
open Go.RowKit Go.IntWalk

theorem sum_size (xs : List Nat) (hf : FinL xs) (hn : xs.length ≤ 4096) : (sumSv xs xs.length).natAbs < 2 ^ (kN + 13) := by
  have h1 := sum_le xs hf xs.length (Nat.le_refl _)
  rw [Nat.pow_add]
  have h0 : 0 < 2 ^ kN := Nat.two_pow_pos _
  generalize 2 ^ kN = P at h0 h1
  have h2 : xs.length * P ≤ 4096 * P := Nat.mul_le_mul_right _ hn
  omega
theorem neg_one : signN true 4607182418800017408 = 13830554455654793216 ∧ signN true 0 = 9223372036854775808 := by decide
set_option maxHeartbeats 1000000 in
theorem numberFor_any (neg : Bool) (a : Option Addr) (n cap : Nat) (e' z e : Int) (sa : Option Addr) (len sc : Nat) (xs : List Nat) (w : World) (hx : ∀ x ∈ xs, x < 18446744073709551616) (hreach : xs.length ≤ 17592186043904) (hI : FltAt w.heap.size w (.slice sa len sc) xs) (N : Nat) (h : DyAt w neg a n cap e' z e) (hz : z.natAbs < 2 ^ N) (hN : e + (N : Int) ≤ 2900) (hN2 : N ≤ 6400) (he1 : -3000 ≤ e) (hT : Tab w) (hg : 3 < w.heap.size) :
    Calls Tryz.prog 52 #[.agg #[.bool neg, .slice a n cap, .int .i64 e'], .slice sa len sc] w fun r w' => r = .returned (.tuple #[.float .f64 (if minusB xs = true then 9223372036854775808 else rndI z e), .int .i64 0]) ∧ Below w.heap.size w w' := by
  have hal : Below w.heap.size w (w.alloc (DyBox neg a n cap e')) := (Below.refl _ _).alloc (Nat.le_refl _) _
  have HB0 := hid hal
  have HD : Hid (∀ W, Below w.heap.size w W → Calls Tryz.prog 101 #[.agg #[.bool neg, .slice a n cap, .int .i64 e'], .int .i64 0] W fun r w' => r = .returned (.tuple #[.float .f64 (rndI z e), .int .i64 0]) ∧ Below W.heap.size W w') := fun W hW => by
    obtain ⟨L, h1, h2, h3, h4⟩ := h
    exact Round0_dy neg a n cap N e' z e W ⟨L, h1, h2, h3.below hW, h4⟩ hz hN hN2 he1 (hT.below hg hW) (Nat.lt_of_lt_of_le hg hW.size)
  have HM : Hid (∀ W, Below w.heap.size w W → Calls Tryz.prog 100 #[.slice sa len sc] W fun r w' => r = .returned (.bool (minusB xs)) ∧ w' = W) := fun W hW => by
    refine allMinus_any sa len sc xs hx hreach W ?_
    rcases hI.below hW with h | ⟨b, off, c, h1, h2, h3⟩
    · exact .inl h
    · exact .inr ⟨b, off, c, h1, Nat.lt_of_lt_of_le h2 hW.size, h3⟩
  have hbx := new_blk w (DyBox neg a n cap e') w.heap.size rfl
  obtain ⟨c0, c1, c2⟩ := dcells_of hbx
  have HMW := hid (HM.out _ hal)
  have HDW := hid (HD.out _ hal)
  have HCS : Hid (∀ W, Calls Tryz.prog 47 #[.float .f64 0, .float .f64 13830554455654793216] W fun e w' => e = .returned (.float .f64 9223372036854775808) ∧ w' = W) := fun W => by
    have := copysign_any 0 true 4607182418800017408 W (by decide) (by decide)
    rw [neg_one.1, neg_one.2] at this
    exact this
  obtain ⟨W0, hW0⟩ : ∃ V, Hid (w.alloc (DyBox neg a n cap e') = V) := ⟨_, rfl⟩
  rw [hW0.out] at HB0 c0 c1 c2 HMW HDW
  unfold DyBox at hW0
  have hW0' := hW0.out
  obtain ⟨R, hR⟩ : ∃ R, Hid (rndI z e = R) := ⟨_, rfl⟩
  rw [hR.out] at HDW ⊢
  clear h hz hN hN2 he1 hT hg hx hreach hI HD HM hal hbx
  by_cases hm : minusB xs = true
  · rw [hm] at HMW
    rw [if_pos hm]
    clear hm
    go_enter Tryz.func52, Tryz.ntmps52
    go_wp2_with fail
    refine HMW.out.mono ?_
    rintro r w1 ⟨rfl, rfl⟩
    go_wp2_with fail
    refine (HCS.out _).mono ?_
    rintro r w2 ⟨rfl, rfl⟩
    go_wp2
    go_ret2
    exact ⟨rfl, HB0.out⟩
  · have hm' : minusB xs = false := by revert hm; cases minusB xs <;> simp
    rw [hm'] at HMW
    rw [if_neg hm]
    clear hm hm'
    go_enter Tryz.func52, Tryz.ntmps52
    go_wp2_with fail
    refine HMW.out.mono ?_
    rintro r w1 ⟨rfl, rfl⟩
    go_wp2_with fail
    refine HDW.out.mono ?_
    rintro r w2 ⟨rfl, hb2⟩
    have HB2 := hid (HB0.out.trans (hb2.mono HB0.out.size))
    clear hb2
    go_wp2
    go_ret2
    exact ⟨rfl, HB2.out⟩
theorem Finite_list (sa : Option Addr) (n cap : Nat) (xs : List Nat) (w : World) (hl : ListAt w sa n cap xs) (hb : ∀ x ∈ xs, x < 18446744073709551616) (hn : n ≤ 17592186043904) :
    Calls Tryz.prog 49 #[.slice sa n cap] w fun r w' => r = .returned (.bool (allFin xs)) ∧ Below w.heap.size w w' := by
  obtain ⟨rfl, h⟩ := hl
  rcases h with ⟨rfl, h0, rfl⟩ | ⟨h0, b, rfl, hm⟩
  · have hx : xs = [] := List.length_eq_zero_iff.1 h0
    subst hx
    exact Finite_nil w
  · exact Finite_any xs b 0 cap w hm.1 hm.2 (bit_iff xs hb) (by omega)
set_option maxHeartbeats 2000000 in
/-- sum.Exact of finite numbers. -/
theorem Exact_fin (sa : Option Addr) (n cap : Nat) (xs : List Nat) (w : World) (hl : ListAt w sa n cap xs) (hb : ∀ x ∈ xs, x < 18446744073709551616) (hn : n ≤ 4096) (hf : allFin xs = true) (hT : Tab w) (hg : 3 < w.heap.size) (hT3 : Tab32 w) (hs : 2 < w.heap.size) :
    Calls Tryz.prog 9 #[.slice sa n cap] w fun r w' => r = .returned (.tuple #[.float .f64 (exactN xs n), .int .i64 0]) ∧ Below w.heap.size w w' := by
  have HF := hid (Finite_list sa n cap xs w hl hb (by omega))
  rw [hf] at HF
  have HS : Hid (∀ W, Below w.heap.size w W → Calls Tryz.prog 51 #[.slice sa n cap] W fun r w' => ∃ neg a k c e', r = .returned (.tuple #[.agg #[.bool neg, .slice a k c, .int .i64 e'], .int .i64 0]) ∧ Hid (DyAt w' neg a k c e' (sumSv xs n) (-1074)) ∧ Below W.heap.size W w') := fun W hW => by
    refine (Sum_list sa n cap xs W (hl.below hW) hb (by omega) (hT.below hg hW) (Nat.lt_of_lt_of_le hg hW.size) (hT3.below hs hW) (Nat.lt_of_lt_of_le hs hW.size)).mono ?_
    rintro r w' ⟨neg, a, k, c, e', E, rfl, h1, _, h3⟩
    obtain ⟨rfl, h4⟩ := h1 hf
    exact ⟨neg, a, k, c, e', rfl, h4, h3⟩
  have HN : Hid (∀ W neg a k c e', Below w.heap.size w W → DyAt W neg a k c e' (sumSv xs n) (-1074) → Calls Tryz.prog 52 #[.agg #[.bool neg, .slice a k c, .int .i64 e'], .slice sa n cap] W fun r w' => r = .returned (.tuple #[.float .f64 (exactN xs n), .int .i64 0]) ∧ Below W.heap.size W w') := fun W neg a k c e' hW hd => by
    have hz := sum_size xs (fin_iff xs hb hf) (by rw [hl.1]; exact hn)
    rw [hl.1] at hz
    exact numberFor_any neg a k c e' (sumSv xs n) (-1074) sa n cap xs W hb (by rw [hl.1]; omega) (hl.below hW).flt (kN + 13) hd hz (by have := kN_is; omega) (by have := kN_is; omega) (by decide) (hT.below hg hW) (Nat.lt_of_lt_of_le hg hW.size)
  obtain ⟨R, hR⟩ : ∃ R, Hid (exactN xs n = R) := ⟨_, rfl⟩
  rw [hR.out] at HN ⊢
  have hnI : (n : Int) ≤ 4096 := by omega
  clear hl hb hf hT hg hT3 hs
  go_enter Tryz.func9, Tryz.ntmps9
  go_wp2_with fail
  refine HF.out.mono ?_
  rintro r w1 ⟨rfl, hb1⟩
  have HB1 := hid hb1
  clear hb1
  go_wp2_with fail
  refine (HS.out _ HB1.out).mono ?_
  rintro r w2 ⟨neg, a, k, c, e', rfl, HD, hb2⟩
  have HB2 := hid (HB1.out.trans (hb2.mono HB1.out.size))
  have hal : Below w2.heap.size w2 (w2.alloc (DyBox neg a k c e')) := (Below.refl _ _).alloc (Nat.le_refl _) _
  have HBV := hid (HB2.out.trans (hal.mono HB2.out.size))
  obtain ⟨c0, c1, c2⟩ := dcells_of (new_blk w2 (DyBox neg a k c e') w2.heap.size rfl)
  have HDV : Hid (DyAt (w2.alloc (DyBox neg a k c e')) neg a k c e' (sumSv xs n) (-1074)) := by
    obtain ⟨L, h1, h2, h3, h4⟩ := HD.out
    exact ⟨L, h1, h2, h3.below hal, h4⟩
  obtain ⟨V, hV⟩ : ∃ V, Hid (w2.alloc (DyBox neg a k c e') = V) := ⟨_, rfl⟩
  rw [hV.out] at HBV c0 c1 c2 HDV
  unfold DyBox at hV
  have hV' := hV.out
  clear hb2 hal
  go_wp2_with fail
  refine (HN.out _ _ _ _ _ _ HBV.out HDV.out).mono ?_
  rintro r w3 ⟨rfl, hb3⟩
  have HB3 := hid (HBV.out.trans (hb3.mono HBV.out.size))
  clear hb3
  go_wp2
  go_ret2
  exact ⟨rfl, HB3.out⟩
end Go.Proofs.YtehnkgonhgjeiaaGreatDoor

namespace Go.Proofs.YtehnkgonhgjeiaaGreatDoor
open Go.RowKit Go.IntWalk

theorem bt100 : bits .andNot .u64 4607182418800017408 9223372036854775808 = 4607182418800017408 ∧ bits .and .i64 1023 2047 = 1023 ∧ bits .andNot .u64 4607182418800017408 9218868437227405312 = 0 ∧ bits .or .u64 0 5057542381537067008 = 5057542381537067008 := by decide +kernel
set_option maxHeartbeats 1000000 in
theorem ldexp_100 (w : World) : Calls Tryz.prog 109 #[.float .f64 4607182418800017408, .int .i64 100] w fun r w' => r = .returned (.float .f64 5057542381537067008) ∧ w' = w := by
  obtain ⟨g1, g2, g3, g4⟩ := o1
  obtain ⟨b1, b2, b3, b4⟩ := bt100
  have h1 := f64bits
  have h2 := f64fromI3
  have hm := f_mul (x := 4607182418800017408) (y := 5057542381537067008) (z := 5057542381537067008) (by decide +kernel)
  have c0 : wrap64 0 = 0 := by decide +kernel
  have c1 : wrap64 100 = 100 := by decide +kernel
  go_enter Tryz.func109, Tryz.ntmps109
  go_wp2
  go_ret
  exact ⟨rfl, rfl⟩
set_option maxHeartbeats 1000000 in
theorem Ldexp_100 (w : World) : Calls Tryz.prog 61 #[.float .f64 4607182418800017408, .int .i64 100] w fun r w' => r = .returned (.float .f64 5057542381537067008) ∧ w' = w := by
  go_enter Tryz.func61, Tryz.ntmps61
  go_wp2_with fail
  refine (ldexp_100 _).mono ?_
  rintro r w1 ⟨rfl, rfl⟩
  go_wp2
  go_ret
  exact ⟨rfl, rfl⟩
def ex4 : List Nat := [4607182418800017408, 5057542381537067008, 4607182418800017408, 14280914418391842816]
def ex2 : List Nat := [4607182418800017408, 4611686018427387904]
theorem ex4_neu : neuC ex4 = 4611686018427387904 := by decide +kernel
theorem ex2_sum : sumC ex2 = 4613937818241073152 := by decide +kernel
theorem ex4_fin : allFin ex4 = true ∧ minusB ex4 = false := by decide +kernel
theorem ex4_exact : exactN ex4 4 = 4611686018427387904 := by
  unfold exactN
  rw [ex4_fin.2, if_neg (by simp)]
  have h : sumSv ex4 4 = sv 4611686018427387904 := by decide +kernel
  rw [h]
  decide +kernel
theorem fneg_big : Op.unary .neg (.float .f64 5057542381537067008) = pure (.float .f64 14280914418391842816) := by
  show pure (Value.float .f64 (5057542381537067008 ^^^ 9223372036854775808)) = _
  rw [show (5057542381537067008 ^^^ 9223372036854775808 : Nat) = 14280914418391842816 by decide +kernel]
theorem eqs5 : (FloatKind.f64.format.order 4611686018427387904 4611686018427387904 == some .eq) = true ∧ (FloatKind.f64.format.order 4613937818241073152 4613937818241073152 == some .eq) = true := by decide +kernel
theorem ex4_lt : ∀ x ∈ ex4, x < 18446744073709551616 := by decide
theorem ex2_lt : ∀ x ∈ ex2, x < 18446744073709551616 := by decide
theorem list4 (W : World) (b : Nat) (x0 x1 x2 x3 : Nat) (h : W.heap[b]? = some (.cells #[.float .f64 x0, .float .f64 x1, .float .f64 x2, .float .f64 x3] 25)) : ListAt W (some ⟨b, 0, none⟩) 4 4 [x0, x1, x2, x3] := by
  refine ⟨rfl, .inr ⟨by decide, b, rfl, (Array.getElem?_eq_some_iff.1 h).1, fun i hi => ?_⟩⟩
  match i, hi with
  | 0, _ => simp [World.cell?, h]
  | 1, _ => simp [World.cell?, h]
  | 2, _ => simp [World.cell?, h]
  | 3, _ => simp [World.cell?, h]
theorem list2 (W : World) (b : Nat) (x0 x1 : Nat) (h : W.heap[b]? = some (.cells #[.float .f64 x0, .float .f64 x1] 25)) : ListAt W (some ⟨b, 0, none⟩) 2 2 [x0, x1] := by
  refine ⟨rfl, .inr ⟨by decide, b, rfl, (Array.getElem?_eq_some_iff.1 h).1, fun i hi => ?_⟩⟩
  match i, hi with
  | 0, _ => simp [World.cell?, h]
  | 1, _ => simp [World.cell?, h]
set_option maxHeartbeats 1000000 in
/-- Chapter 5's first examples. -/
theorem awake5_any (w : World) (hT : Tab w) (hg : 3 < w.heap.size) (hT3 : Tab32 w) (hs : 2 < w.heap.size) :
    Calls Tryz.prog 22 #[] w fun r w' => r = .returned (.bool true) ∧ Below w.heap.size w w' := by
  have HX : Hid (∀ W b, Below w.heap.size w W → W.heap[b]? = some (.cells #[.float .f64 4607182418800017408, .float .f64 5057542381537067008, .float .f64 4607182418800017408, .float .f64 14280914418391842816] 25) → Calls Tryz.prog 9 #[.slice (some ⟨b, 0, none⟩) 4 4] W fun r w' => r = .returned (.tuple #[.float .f64 4611686018427387904, .int .i64 0]) ∧ Below W.heap.size W w') := fun W b hW hc => by
    have := Exact_fin (some ⟨b, 0, none⟩) 4 4 ex4 W (list4 W b _ _ _ _ hc) ex4_lt (by decide) ex4_fin.1 (hT.below hg hW) (Nat.lt_of_lt_of_le hg hW.size) (hT3.below hs hW) (Nat.lt_of_lt_of_le hs hW.size)
    rw [ex4_exact] at this
    exact this
  have HN : Hid (∀ W b, W.heap[b]? = some (.cells #[.float .f64 4607182418800017408, .float .f64 5057542381537067008, .float .f64 4607182418800017408, .float .f64 14280914418391842816] 25) → Calls Tryz.prog 19 #[.slice (some ⟨b, 0, none⟩) 4 4] W fun r w' => r = .returned (.float .f64 4611686018427387904) ∧ Below W.heap.size W w') := fun W b hc => by
    have := Neum_any (some ⟨b, 0, none⟩) 4 4 ex4 ex4_lt (by decide) W (list4 W b _ _ _ _ hc).flt
    rw [ex4_neu] at this
    exact this
  have HL : Hid (∀ W b, W.heap[b]? = some (.cells #[.float .f64 4607182418800017408, .float .f64 4611686018427387904] 25) → Calls Tryz.prog 13 #[.slice (some ⟨b, 0, none⟩) 2 2] W fun r w' => r = .returned (.float .f64 4613937818241073152) ∧ Below W.heap.size W w') := fun W b hc => by
    have := Left_any (some ⟨b, 0, none⟩) 2 2 ex2 ex2_lt (by decide) W (list2 W b _ _ hc).flt
    rw [ex2_sum] at this
    exact this
  have hng := fneg_big
  obtain ⟨q1, q2⟩ := eqs5
  clear hT hg hT3 hs
  go_enter Tryz.func22, Tryz.ntmps22
  go_wp2_with fail
  refine (Ldexp_100 _).mono ?_
  rintro r w1 ⟨rfl, rfl⟩
  go_wp2_with fail
  refine (HX.out _ _ ((Below.refl _ _).alloc (Nat.le_refl _) _) (new_blk _ _ _ rfl)).mono ?_
  rintro r w2 ⟨rfl, hb2⟩
  have HB2 := hid (((Below.refl w1.heap.size w1).alloc (Nat.le_refl _) _).trans (hb2.mono (by simp)))
  clear hb2
  go_wp2_with fail
  refine (HL.out _ _ (new_blk _ _ _ rfl)).mono ?_
  rintro r w3 ⟨rfl, hb3⟩
  have HB3 := hid ((HB2.out.alloc HB2.out.size _).trans (hb3.mono (by have := HB2.out.size; simp; omega)))
  clear hb3
  go_wp2_with fail
  refine (HN.out _ _ (new_blk _ _ _ rfl)).mono ?_
  rintro r w4 ⟨rfl, hb4⟩
  have HB4 := hid ((HB3.out.alloc HB3.out.size _).trans (hb4.mono (by have := HB3.out.size; simp; omega)))
  clear hb4
  go_wp2
  go_ret
  exact ⟨rfl, HB4.out⟩
end Go.Proofs.YtehnkgonhgjeiaaGreatDoor

namespace Go.Proofs.YtehnkgonhgjeiaaGreatDoor
open Go.RowKit Go.IntWalk

theorem FltAt.get {n0 : Nat} {W : World} {sa : Option Addr} {n cap : Nat} {xs : List Nat} (h : FltAt n0 W (.slice sa n cap) xs) : xs.length = n ∧ (n ≠ 0 → ∃ b off, sa = some ⟨b, off, none⟩ ∧ b < n0 ∧ ∀ j, j < n → W.cell? ⟨b, off + j, none⟩ = some (.float .f64 (xs.getD j 0))) := by
  rcases h with ⟨h1, rfl⟩ | ⟨b, off, c, h1, hb, hc⟩
  · cases h1
    exact ⟨rfl, fun h => absurd rfl h⟩
  · cases h1
    exact ⟨rfl, fun _ => ⟨b, off, rfl, hb, hc⟩⟩
/-- Products of canonical numbers. -/
def prodL (xs ys : List Nat) (n : Nat) : List Nat := (List.range n).map fun j => caf .mul (canonOf (xs.getD j 0)) (canonOf (ys.getD j 0))
theorem prodL_succ (xs ys : List Nat) (n : Nat) : prodL xs ys (n + 1) = prodL xs ys n ++ [caf .mul (canonOf (xs.getD n 0)) (canonOf (ys.getD n 0))] := by simp [prodL, List.range_succ]
theorem sumC_canon (zs : List Nat) : sumC (zs.map canonOf) = sumC zs := by
  unfold sumC
  rw [List.foldl_map]
  congr 1
  funext s x
  rw [canon_twice]
theorem info_fl : (Tryz.prog.info? 25).map (fun i => (i.zero, i.size, i.bytes)) = some (some (.float .f64 0), 1, 8) := by kernel_rfl
set_option maxHeartbeats 2000000 in
theorem products_any (sa sb : Option Addr) (N ca cb : Nat) (xs ys : List Nat) (hx : ∀ x ∈ xs, x < 18446744073709551616) (hy : ∀ x ∈ ys, x < 18446744073709551616) (hN : N ≤ 17592186043904) (w : World) (ha : FltAt w.heap.size w (.slice sa N ca) xs) (hb : FltAt w.heap.size w (.slice sb N cb) ys) :
    Calls Tryz.prog 79 #[.slice sa N ca, .slice sb N cb] w fun r w' => ∃ zs, r = .returned (.slice (some ⟨w.heap.size, 0, none⟩) N N) ∧ zs.map canonOf = prodL xs ys N ∧ (∀ z ∈ zs, z < 18446744073709551616) ∧ FltAt w'.heap.size w' (.slice (some ⟨w.heap.size, 0, none⟩) N N) zs ∧ Below w.heap.size w w' := by
  have hmk := run_make_row' (P := Tryz.prog) 23 25 (.float .f64 0) 8 Tryz.underlying23 info_fl rfl .i64 .i64 N (by omega) (by omega)
  have r3 := ar_run .mul ok_m
  have hst := fstoreS
  have HA := hid ha.get
  have HB := hid hb.get
  have HX : Hid (∀ j, j < N → xs.getD j 0 < 18446744073709551616) := fun j hj => hx _ (mem_get xs j (by rw [ha.get.1]; exact hj))
  have HY : Hid (∀ j, j < N → ys.getD j 0 < 18446744073709551616) := fun j hj => hy _ (mem_get ys j (by rw [hb.get.1]; exact hj))
  clear hx hy ha hb
  go_enter Tryz.func79, Tryz.ntmps79
  go_wp2_with fail
  go_loopw [13] (fun i wr => ∃ (k : Nat) (o : Nat → Nat), k ≤ N ∧ i = .int .i64 k ∧ Hid (wr.rowIs w.heap.size 25 N (fun j => .float .f64 (o j))) ∧ Hid (∀ j, j < k → o j < 18446744073709551616 ∧ canonOf (o j) = caf .mul (canonOf (xs.getD j 0)) (canonOf (ys.getD j 0))) ∧ Hid (Below w.heap.size w wr)) (fun i _ => N - (intOf i).toNat)
  case atStart => exact ⟨0, fun _ => 0, Nat.zero_le _, rfl, World.rowIs_made w (.float .f64 0) N _, fun j hj => absurd hj (Nat.not_lt_zero j), (Below.refl _ _).alloc (Nat.le_refl _) _⟩
  case round =>
    obtain ⟨k, o, hk, rfl, HR, HP, HBW⟩ := hrel
    by_cases hlt : k < N
    · obtain ⟨b, off, rfl, hb1, hc1⟩ := HA.out.2 (by omega)
      obtain ⟨b2, off2, rfl, hb2, hc2⟩ := HB.out.2 (by omega)
      have g1 : wr.cell? ⟨b, off + k, none⟩ = some (.float .f64 (xs.getD k 0)) := (HBW.out.cell (p := ⟨b, off + k, none⟩) hb1).trans (hc1 k hlt)
      have g2 : wr.cell? ⟨b2, off2 + k, none⟩ = some (.float .f64 (ys.getD k 0)) := (HBW.out.cell (p := ⟨b2, off2 + k, none⟩) hb2).trans (hc2 k hlt)
      have hx := HX.out k hlt
      have hy := HY.out k hlt
      have HD : Hid (canonOf (arF .mul (xs.getD k 0) (ys.getD k 0) wr) = caf .mul (canonOf (xs.getD k 0)) (canonOf (ys.getD k 0))) := canon_ar ok_m _ _ _ hx hy
      have HT : Hid (∀ j, j < k → o j < 18446744073709551616 ∧ canonOf (o j) = caf .mul (canonOf (xs.getD j 0)) (canonOf (ys.getD j 0))) := HP
      obtain ⟨x, hxx⟩ : ∃ x, Hid (xs.getD k 0 = x) := ⟨_, rfl⟩
      obtain ⟨y, hyy⟩ : ∃ y, Hid (ys.getD k 0 = y) := ⟨_, rfl⟩
      rw [hxx.out] at g1 HD
      rw [hyy.out] at g2 HD
      have hkI : (k : Int) < (N : Int) := by omega
      have hk0 : (0 : Int) ≤ (k : Int) := by omega
      have HR1 : Hid ((arG .mul x y wr).rowIs w.heap.size 25 N (fun j => .float .f64 (o j))) := HR.out.of_block (by rw [arG_heap])
      have c1 := HR1.out.cell hlt
      have f1 := HR1.out.frozen k
      have HBG : Hid (Below w.heap.size w (arG .mul x y wr)) := bl_ar HBW.out _ _ _
      clear hc1 hc2 hb1 hb2 hx hy HP
      go_wp2
      refine ⟨⟨k + 1, fun j => if j = k then arF .mul x y wr else o j, by omega, by go_num, ?_, fun j hj => ?_, HBG.out.setCell (p := ⟨w.heap.size, k, none⟩) (Nat.le_refl _) _⟩, ?_⟩
      · refine (HR1.out.set k _).congr (fun j _ => ?_)
        by_cases hjk : j = k <;> simp [hjk]
      · dsimp only
        by_cases hjk : j = k
        · subst hjk
          rw [if_pos rfl]
          exact ⟨arF_lt ok_m _ _ _, by rw [hxx.out, hyy.out]; exact HD.out⟩
        · rw [if_neg hjk]
          exact HT.out j (by omega)
      · simp [intOf]; omega
    · obtain rfl : k = N := by omega
      go_wp2
      go_ret
      refine ⟨(List.range k).map o, rfl, ?_, ?_, .inr ⟨w.heap.size, 0, k, by simp, HR.out.lt, fun j hj => ?_⟩, HBW.out⟩
      · rw [List.map_map]
        unfold prodL
        refine List.map_congr_left (fun j hj => ?_)
        exact (HP.out j (List.mem_range.1 hj)).2
      · intro z hz
        obtain ⟨j, hj, rfl⟩ := List.mem_map.1 hz
        exact (HP.out j (List.mem_range.1 hj)).1
      · have hj2 : j < k := by simpa using hj
        rw [Nat.zero_add, HR.out.cell hj2, List.getD_eq_getElem?_getD, List.getElem?_map, List.getElem?_range hj2]
        rfl
end Go.Proofs.YtehnkgonhgjeiaaGreatDoor

namespace Go.Proofs.YtehnkgonhgjeiaaGreatDoor
open Go.RowKit Go.IntWalk

end Go.Proofs.YtehnkgonhgjeiaaGreatDoor

namespace Go.Proofs.YtehnkgonhgjeiaaGreatDoor
open Go.RowKit Go.IntWalk

theorem f64fromS (n : Int) (w : World) : (callFunc 44 #[.int .u64 n]).run Tryz.prog w = .ok (.value (.float .f64 n.toNat)) w := by
  rw [run_callFunc_extern Tryz.func44 (by kernel_rfl) (by kernel_rfl) (by kernel_rfl) (e := Extern.MathFloatBits.float64frombits) (by kernel_rfl)]; rfl
set_option maxHeartbeats 400000 in
theorem Inf_posS (w : World) : Calls Tryz.prog 89 #[.int .i64 1] w fun r w' => r = .returned (.float .f64 9218868437227405312) ∧ w' = w := by
  have h64 := f64fromS
  go_enter Tryz.func89, Tryz.ntmps89
  go_wp2
  go_ret
  exact ⟨rfl, rfl⟩
set_option maxHeartbeats 400000 in
theorem Inf_negS (w : World) : Calls Tryz.prog 89 #[.int .i64 (-1)] w fun r w' => r = .returned (.float .f64 18442240474082181120) ∧ w' = w := by
  have h64 := f64fromS
  go_enter Tryz.func89, Tryz.ntmps89
  go_wp2
  go_ret
  exact ⟨rfl, rfl⟩
set_option maxHeartbeats 400000 in
theorem rNaNS (w : World) : Calls Tryz.prog 88 #[] w fun r w' => r = .returned (.float .f64 9221120237041090561) ∧ w' = w := by
  have h64 := f64fromS
  go_enter Tryz.func88, Tryz.ntmps88
  go_wp2
  go_ret
  exact ⟨rfl, rfl⟩
/-- Is it the infinity of this sign? -/
def infB (x : Nat) (s : Int) : Bool := FloatKind.f64.format.order (if s = 1 then x else x ^^^ 9223372036854775808) 9218868437227405311 == some .gt
theorem negS (b : Nat) : Op.unary .neg (.float .f64 b) = pure (.float .f64 (b ^^^ 9223372036854775808)) := rfl
set_option maxHeartbeats 400000 in
theorem isinfS (x : Nat) (s : Int) (w : World) (hs : s = 1 ∨ s = -1) : Calls Tryz.prog 80 #[.float .f64 x, .int .i64 s] w fun r w' => r = .returned (.bool (infB x s)) ∧ w' = w := by
  unfold infB
  rcases hs with rfl | rfl
  · rw [if_pos rfl]
    by_cases c : FloatKind.f64.format.order x 9218868437227405311 = some .gt
    · rw [c]
      go_enter Tryz.func80, Tryz.ntmps80
      go_wp2
      go_ret
      exact ⟨rfl, rfl⟩
    · have d : (FloatKind.f64.format.order x 9218868437227405311 == some .gt) = false := by simpa using c
      rw [d]
      go_enter Tryz.func80, Tryz.ntmps80
      go_wp2
      go_ret
      exact ⟨rfl, rfl⟩
  · rw [if_neg (by decide)]
    have hn := negS x
    obtain ⟨y, hy⟩ : ∃ y, x ^^^ 9223372036854775808 = y := ⟨_, rfl⟩
    rw [hy] at hn ⊢
    clear hy
    by_cases c : FloatKind.f64.format.order y 9218868437227405311 = some .gt
    · rw [c]
      go_enter Tryz.func80, Tryz.ntmps80
      go_wp2
      go_ret
      exact ⟨rfl, rfl⟩
    · have d : (FloatKind.f64.format.order y 9218868437227405311 == some .gt) = false := by simpa using c
      rw [d]
      go_enter Tryz.func80, Tryz.ntmps80
      go_wp2
      go_ret
      exact ⟨rfl, rfl⟩
theorem any_snoc (p : Nat → Bool) (zs : List Nat) (x : Nat) : (zs ++ [x]).any p = (zs.any p || p x) := by
  rw [List.any_append]
  simp
def nanB (x : Nat) : Bool := FloatKind.f64.format.order x x != some .eq
def upL (zs : List Nat) : Bool := zs.any fun z => infB z 1
def dnL (zs : List Nat) : Bool := zs.any fun z => infB z (-1)
def naL (zs : List Nat) : Bool := zs.any nanB
/-- What they come to, and whether there are any. -/
def spec3 (n u d : Bool) : Nat × Bool := if (n || (u && d)) = true then (9221120237041090561, true) else if u = true then (9218868437227405312, true) else if d = true then (18442240474082181120, true) else (0, false)
set_option maxHeartbeats 4000000 in
theorem special_any (sa : Option Addr) (N ca : Nat) (zs : List Nat) (hN : N ≤ 17592186043904) (w : World) (ha : FltAt w.heap.size w (.slice sa N ca) zs) :
    Calls Tryz.prog 45 #[.slice sa N ca] w fun r w' => r = .returned (.tuple #[.float .f64 (spec3 (naL zs) (upL zs) (dnL zs)).1, .bool (spec3 (naL zs) (upL zs) (dnL zs)).2]) ∧ w' = w := by
  have HA := hid ha.get
  have HE : Hid (zs.take N = zs) := List.take_of_length_le (by rw [ha.get.1]; exact Nat.le_refl _)
  have HI := hid (fun x s W hs => isinfS x s W hs)
  clear ha
  go_enter Tryz.func45, Tryz.ntmps45
  go_wp2_with fail
  go_loopw [4, 5, 6, 11] (fun u d n i wr => ∃ (k : Nat) (ub db nb : Bool), k ≤ N ∧ u = .bool ub ∧ d = .bool db ∧ n = .bool nb ∧ i = .int .i64 k ∧ Hid (ub = upL (zs.take k) ∧ db = dnL (zs.take k) ∧ nb = naL (zs.take k)) ∧ wr = w) (fun _ _ _ i _ => N - (intOf i).toNat)
  case atStart => exact ⟨0, false, false, false, Nat.zero_le _, rfl, rfl, rfl, rfl, ⟨rfl, rfl, rfl⟩, rfl⟩
  case round =>
    obtain ⟨k, ub, db, nb, hk, rfl, rfl, rfl, rfl, HB, rfl⟩ := hrel
    by_cases hlt : k < N
    · obtain ⟨b, off, rfl, hb1, hc1⟩ := HA.out.2 (by omega)
      have g1 := hc1 k hlt
      have HT : Hid (zs.take (k + 1) = zs.take k ++ [zs.getD k 0]) := take_next zs k (by rw [HA.out.1]; exact hlt)
      have HU : Hid ((ub || infB (zs.getD k 0) 1) = upL (zs.take (k + 1)) ∧ (db || infB (zs.getD k 0) (-1)) = dnL (zs.take (k + 1)) ∧ (nb || nanB (zs.getD k 0)) = naL (zs.take (k + 1))) := by
        rw [HT.out, HB.out.1, HB.out.2.1, HB.out.2.2]
        unfold upL dnL naL
        rw [any_snoc, any_snoc, any_snoc]
        exact ⟨rfl, rfl, rfl⟩
      obtain ⟨x, hxx⟩ : ∃ x, Hid (zs.getD k 0 = x) := ⟨_, rfl⟩
      rw [hxx.out] at g1 HU
      have hq : (FloatKind.f64.format.order x x != some .eq) = nanB x := rfl
      obtain ⟨ux, hux⟩ : ∃ b, Hid (infB x 1 = b) := ⟨_, rfl⟩
      obtain ⟨dx, hdx⟩ : ∃ b, Hid (infB x (-1) = b) := ⟨_, rfl⟩
      obtain ⟨nx, hnx⟩ : ∃ b, Hid (nanB x = b) := ⟨_, rfl⟩
      have HIX : Hid (∀ s W, s = 1 ∨ s = -1 → Calls Tryz.prog 80 #[.float .f64 x, .int .i64 s] W fun r w' => r = .returned (.bool (if s = 1 then ux else dx)) ∧ w' = W) := fun s W hs => by
        have := HI.out x s W hs
        rcases hs with rfl | rfl
        · rw [hux.out] at this; exact this
        · rw [hdx.out] at this; exact this
      rw [hux.out, hdx.out, hnx.out] at HU
      rw [hnx.out] at hq
      have hkI : (k : Int) < (N : Int) := by omega
      have hk0 : (0 : Int) ≤ (k : Int) := by omega
      clear hc1 hb1 HB
      cases ub <;> cases db <;> cases nb <;> simp only [Bool.false_or, Bool.true_or] at HU
      all_goals
        go_wp2_with (first | (go_at_call 80; refine (HIX.out _ _ (by simp)).mono ?_; rintro r w9 ⟨rfl, rfl⟩))
        refine ⟨⟨k + 1, _, _, _, by omega, rfl, rfl, rfl, by go_num, HU, trivial⟩, ?_⟩
        simp [intOf]; omega
    · obtain rfl : k = N := by omega
      rw [HE.out] at HB
      have HV : Hid (spec3 (naL zs) (upL zs) (dnL zs) = spec3 nb ub db) := by
        show _ = _
        rw [← HB.out.1, ← HB.out.2.1, ← HB.out.2.2]
      have HN := hid rNaNS
      have HP := hid Inf_posS
      have HM := hid Inf_negS
      clear HB
      cases ub <;> cases db <;> cases nb
      all_goals
        go_wp2_with (first | (go_at_call 88; refine (HN.out _).mono ?_; rintro r w9 ⟨rfl, rfl⟩) | (go_at_call 89; first | (with_reducible refine (HP.out _).mono ?_; (rintro r w9 ⟨rfl, rfl⟩)) | (with_reducible refine (HM.out _).mono ?_; (rintro r w9 ⟨rfl, rfl⟩))))
        go_ret2
        exact ⟨by rw [HV.out]; rfl, rfl⟩
end Go.Proofs.YtehnkgonhgjeiaaGreatDoor

namespace Go.Proofs.YtehnkgonhgjeiaaGreatDoor
open Go.RowKit Go.IntWalk

/-- The pairs that aren't both finite. -/
def nfC (xs ys : List Nat) : Nat → List Nat × List Nat
  | 0 => ([], [])
  | k + 1 => if allFin [xs.getD k 0, ys.getD k 0] = true then nfC xs ys k else ((nfC xs ys k).1 ++ [xs.getD k 0], (nfC xs ys k).2 ++ [ys.getD k 0])
theorem nfC_len (xs ys : List Nat) : ∀ k, (nfC xs ys k).1.length = (nfC xs ys k).2.length ∧ (nfC xs ys k).1.length ≤ k
  | 0 => ⟨rfl, Nat.le_refl _⟩
  | k + 1 => by
    obtain ⟨h1, h2⟩ := nfC_len xs ys k
    unfold nfC
    split
    · exact ⟨h1, by omega⟩
    · simp only [List.length_append, List.length_singleton]
      omega
/-- Their products. -/
def nfP (xs ys : List Nat) : Nat → List Nat
  | 0 => []
  | k + 1 => if allFin [xs.getD k 0, ys.getD k 0] = true then nfP xs ys k else nfP xs ys k ++ [caf .mul (canonOf (xs.getD k 0)) (canonOf (ys.getD k 0))]
theorem prodL_snoc (cs ds : List Nat) (x y : Nat) (h : cs.length = ds.length) : prodL (cs ++ [x]) (ds ++ [y]) (cs.length + 1) = prodL cs ds cs.length ++ [caf .mul (canonOf x) (canonOf y)] := by
  rw [prodL_succ]
  congr 1
  · unfold prodL
    refine List.map_congr_left (fun j hj => ?_)
    have hj := List.mem_range.1 hj
    rw [List.getD_eq_getElem?_getD, List.getElem?_append_left hj, ← List.getD_eq_getElem?_getD, List.getD_eq_getElem?_getD (l := ds ++ [y]), List.getElem?_append_left (by omega), ← List.getD_eq_getElem?_getD]
  · simp [List.getD, h]
theorem nfP_is (xs ys : List Nat) : ∀ k, prodL (nfC xs ys k).1 (nfC xs ys k).2 (nfC xs ys k).1.length = nfP xs ys k
  | 0 => rfl
  | k + 1 => by
    have ih := nfP_is xs ys k
    have hl := (nfC_len xs ys k).1
    unfold nfC nfP
    by_cases c : allFin [xs.getD k 0, ys.getD k 0] = true
    · rw [if_pos c, if_pos c]; exact ih
    · rw [if_neg c, if_neg c, ← ih]
      simp only [List.length_append, List.length_singleton]
      exact prodL_snoc _ _ _ _ hl
/-- They lie apart. -/
def ApartS (u v : Value) : Prop := ∀ g, u.ownBlock = some g → v.ownBlock ≠ some g
theorem ApartS.ne {u v : Value} (h : ApartS u v) : v.ownBlock = none ∨ v.ownBlock ≠ u.ownBlock := by
  cases hv : v.ownBlock with
  | none => exact .inl rfl
  | some g => exact .inr (fun e => h g e.symm hv)
theorem ApartS.symm {u v : Value} (h : ApartS u v) : ApartS v u := fun g h1 h2 => h g h2 h1
theorem ApartS.new {u v u' : Value} {n : Nat} (h : ApartS u v) (hu : u'.ownBlock = u.ownBlock ∨ u'.ownBlock = some n) (hv : ∀ g, v.ownBlock = some g → g < n) : ApartS u' v := fun g h1 h2 => by
  rcases hu with e | e
  · exact h g (e ▸ h1) h2
  · rw [e] at h1
    cases h1
    have := hv _ h2
    omega
theorem list2F (W : World) (b x0 x1 : Nat) (h : W.heap[b]? = some (.cells #[.float .f64 x0, .float .f64 x1] 25)) : ∀ i, i < [x0, x1].length → W.cell? ⟨b, 0 + i, none⟩ = some (.float .f64 ([x0, x1].getD i 0)) := fun i hi => by
  match i, hi with
  | 0, _ => simp [World.cell?, h]
  | 1, _ => simp [World.cell?, h]
end Go.Proofs.YtehnkgonhgjeiaaGreatDoor

namespace Go.Proofs.YtehnkgonhgjeiaaGreatDoor
open Go.RowKit Go.IntWalk

/-- A NaN or an infinity, canonical. -/
def Spc (p : Nat) : Prop := p = 9221120237041090561 ∨ p = 9218868437227405312 ∨ p = 18442240474082181120
def nP (ps : List Nat) : Bool := ps.any fun p => p == 9221120237041090561
def uP (ps : List Nat) : Bool := ps.any fun p => p == 9218868437227405312
def dP (ps : List Nat) : Bool := ps.any fun p => p == 18442240474082181120
theorem spc_step (n u d : Bool) (p : Nat) (hp : Spc p) : caf .add (spec3 n u d).1 (canonOf p) = (spec3 (n || p == 9221120237041090561) (u || p == 9218868437227405312) (d || p == 18442240474082181120)).1 := by
  rcases hp with rfl | rfl | rfl <;> cases n <;> cases u <;> cases d <;> decide +kernel
theorem spc_sumN : ∀ (n : Nat) (ps : List Nat), ps.length = n → (∀ p ∈ ps, Spc p) → sumC ps = (spec3 (nP ps) (uP ps) (dP ps)).1
  | 0, ps, hn, _ => by rw [List.length_eq_zero_iff.1 hn]; rfl
  | n + 1, ps, hn, hp => by
    rcases snoc_cases ps with rfl | ⟨qs, q, rfl⟩
    · cases hn
    · have ih := spc_sumN n qs (by simp at hn; exact hn) (fun x h => hp x (by simp [h]))
      have hq := hp q (by simp)
      rw [sumC_snoc, ih, spc_step _ _ _ q hq]
      unfold nP uP dP
      rw [any_snoc, any_snoc, any_snoc]
theorem spc_sum (ps : List Nat) (hp : ∀ p ∈ ps, Spc p) : sumC ps = (spec3 (nP ps) (uP ps) (dP ps)).1 := spc_sumN _ ps rfl hp
theorem spc_flag (ps : List Nat) (hp : ∀ p ∈ ps, Spc p) (h0 : ps ≠ []) : (spec3 (nP ps) (uP ps) (dP ps)).2 = true := by
  cases ps with
  | nil => exact absurd rfl h0
  | cons p t =>
    have : nP (p :: t) = true ∨ uP (p :: t) = true ∨ dP (p :: t) = true := by
      unfold nP uP dP
      rcases hp p (by simp) with rfl | rfl | rfl
      · left; simp
      · right; left; simp
      · right; right; simp
    unfold spec3
    rcases this with h | h | h <;> rw [h] <;> cases nP (p :: t) <;> cases uP (p :: t) <;> cases dP (p :: t) <;> first | rfl | simp
theorem xor_mod (x : Nat) : (x ^^^ 9223372036854775808) % 9223372036854775808 = x % 9223372036854775808 := by
  have h := Nat.xor_mod_two_pow (a := x) (b := 9223372036854775808) (n := 63)
  rw [show (2 : Nat) ^ 63 = 9223372036854775808 by decide] at h
  rw [h, Nat.mod_self, Nat.xor_zero]
theorem one_spc (z : Nat) (hz : z < 18446744073709551616) (h : Spc (canonOf z)) : nanB z = (canonOf z == 9221120237041090561) ∧ infB z 1 = (canonOf z == 9218868437227405312) ∧ infB z (-1) = (canonOf z == 18442240474082181120) := by
  rcases canon_is z hz with ⟨n1, e1⟩ | ⟨n1, e1⟩
  · rw [e1]
    unfold nanB infB
    rw [if_pos rfl, if_neg (by decide), order_nanL z _ n1.2, order_nanL z _ n1.2, order_nanL (z ^^^ 9223372036854775808) _ (by rw [xor_mod]; exact n1.2)]
    decide
  · rw [e1] at h ⊢
    rcases h with rfl | rfl | rfl
    · exact absurd nan_can n1
    · decide +kernel
    · decide +kernel
theorem all_spc : ∀ (zs : List Nat), (∀ z ∈ zs, z < 18446744073709551616) → (∀ p ∈ zs.map canonOf, Spc p) → naL zs = nP (zs.map canonOf) ∧ upL zs = uP (zs.map canonOf) ∧ dnL zs = dP (zs.map canonOf)
  | [], _, _ => ⟨rfl, rfl, rfl⟩
  | z :: t, hz, hp => by
    obtain ⟨i1, i2, i3⟩ := all_spc t (fun x h => hz x (by simp [h])) (fun p h => hp p (by simp only [List.map_cons, List.mem_cons]; exact Or.inr h))
    obtain ⟨j1, j2, j3⟩ := one_spc z (hz z (by simp)) (hp _ (by simp))
    unfold naL upL dnL nP uP dP at *
    simp only [List.map_cons, List.any_cons]
    rw [i1, i2, i3, j1, j2, j3]
    exact ⟨rfl, rfl, rfl⟩
/-- What the document's special answers of them. -/
theorem spc_told (zs ps : List Nat) (hm : zs.map canonOf = ps) (hz : ∀ z ∈ zs, z < 18446744073709551616) (hp : ∀ p ∈ ps, Spc p) : (spec3 (naL zs) (upL zs) (dnL zs)).1 = sumC ps ∧ (ps ≠ [] → (spec3 (naL zs) (upL zs) (dnL zs)).2 = true) ∧ (ps = [] → (spec3 (naL zs) (upL zs) (dnL zs)).2 = false) := by
  subst hm
  obtain ⟨i1, i2, i3⟩ := all_spc zs hz hp
  rw [i1, i2, i3]
  refine ⟨(spc_sum _ hp).symm, spc_flag _ hp, fun h => ?_⟩
  rw [h]
  rfl
theorem fin_read (x : Nat) (hx : x < 18446744073709551616) (h : ¬ x % 9223372036854775808 < 9218868437227405312) : (∃ s, FloatKind.f64.format.read x = .infinity s) ∨ (∃ s t, FloatKind.f64.format.read x = .nan s t) := by
  by_cases c : x % 9223372036854775808 = 9218868437227405312
  · exact Or.inl (read_infS x hx c)
  · exact Or.inr (read_nan x (by omega))
theorem caf_inf (s : Bool) : Spc (canonOf (FloatKind.f64.format.write (.infinity s))) := by unfold Spc; cases s <;> decide +kernel
theorem mul_spc (x y : Nat) (hx : x < 18446744073709551616) (hy : y < 18446744073709551616) (h : ¬ (x % 9223372036854775808 < 9218868437227405312 ∧ y % 9223372036854775808 < 9218868437227405312)) : Spc (caf .mul x y) := by
  unfold caf
  show Spc (((FloatKind.f64.format.mul x y).map canonOf).getD 9221120237041090561)
  unfold Ieee.Format.mul
  by_cases fx : x % 9223372036854775808 < 9218868437227405312
  · have fy : ¬ y % 9223372036854775808 < 9218868437227405312 := fun hh => h ⟨fx, hh⟩
    rcases fin_read y hy fy with ⟨s, e⟩ | ⟨s, t, e⟩
    · rw [e]
      cases FloatKind.f64.format.read x with
      | nan a b => exact Or.inl rfl
      | infinity a => exact caf_inf _
      | number a b c =>
        simp only [Ieee.Datum.product]
        split
        · exact Or.inl rfl
        · exact caf_inf _
    · rw [e]
      cases FloatKind.f64.format.read x <;> exact Or.inl rfl
  · rcases fin_read x hx fx with ⟨s, e⟩ | ⟨s, t, e⟩
    · rw [e]
      cases FloatKind.f64.format.read y with
      | nan a b => exact Or.inl rfl
      | infinity a => exact caf_inf _
      | number a b c =>
        simp only [Ieee.Datum.product]
        split
        · exact Or.inl rfl
        · exact caf_inf _
    · rw [e]
      exact Or.inl rfl
theorem exp_iff (x : Nat) : (expOf x == 2047) = !decide (x % 9223372036854775808 < 9218868437227405312) := by
  by_cases h : x % 9223372036854775808 < 9218868437227405312
  · rw [decide_eq_true h]
    have : expOf x ≠ 2047 := by
      unfold expOf canonOf
      split <;> omega
    simpa using this
  · rw [decide_eq_false h]
    have : expOf x = 2047 := by
      unfold expOf canonOf
      split <;> omega
    simpa using this
theorem allFin2 (x y : Nat) : allFin [x, y] = decide (x % 9223372036854775808 < 9218868437227405312 ∧ y % 9223372036854775808 < 9218868437227405312) := by
  unfold allFin
  simp only [List.all_cons, List.all_nil, Bool.and_true]
  rw [exp_iff x, exp_iff y, Bool.not_not, Bool.not_not, Bool.decide_and]
theorem canon_mod (x : Nat) (h : ¬ x % 9223372036854775808 < 9218868437227405312) : ¬ canonOf x % 9223372036854775808 < 9218868437227405312 := by
  unfold canonOf
  split
  · decide
  · exact h
theorem nfP_spc (xs ys : List Nat) : ∀ k, (∀ j, j < k → xs.getD j 0 < 18446744073709551616 ∧ ys.getD j 0 < 18446744073709551616) → ∀ p ∈ nfP xs ys k, Spc p
  | 0, _ => fun p hp => by cases hp
  | k + 1, h => fun p hp => by
    have ih := nfP_spc xs ys k (fun j hj => h j (by omega))
    unfold nfP at hp
    by_cases c : allFin [xs.getD k 0, ys.getD k 0] = true
    · rw [if_pos c] at hp; exact ih p hp
    · rw [if_neg c] at hp
      rcases List.mem_append.1 hp with hp | hp
      · exact ih p hp
      · obtain rfl : p = _ := by simpa using hp
        obtain ⟨h1, h2⟩ := h k (by omega)
        refine mul_spc _ _ (canon_lt h1) (canon_lt h2) (fun hh => ?_)
        rw [allFin2, decide_eq_true_iff] at c
        apply c
        refine ⟨?_, ?_⟩
        · apply Classical.byContradiction
          exact fun hc => canon_mod _ hc hh.1
        · apply Classical.byContradiction
          exact fun hc => canon_mod _ hc hh.2
theorem nfP_nil (xs ys : List Nat) : ∀ k, (∀ j, j < k → allFin [xs.getD j 0, ys.getD j 0] = true) → nfP xs ys k = []
  | 0, _ => rfl
  | k + 1, h => by
    unfold nfP
    rw [if_pos (h k (by omega))]
    exact nfP_nil xs ys k (fun j hj => h j (by omega))
theorem nfP_not (xs ys : List Nat) : ∀ k, (∃ j, j < k ∧ allFin [xs.getD j 0, ys.getD j 0] = false) → nfP xs ys k ≠ []
  | 0, ⟨j, hj, _⟩ => absurd hj (Nat.not_lt_zero j)
  | k + 1, ⟨j, hj, h⟩ => by
    unfold nfP
    by_cases c : allFin [xs.getD k 0, ys.getD k 0] = true
    · rw [if_pos c]
      refine nfP_not xs ys k ⟨j, ?_, h⟩
      have : j ≠ k := fun e => by rw [e] at h; rw [h] at c; cases c
      omega
    · rw [if_neg c]
      simp
theorem allFin_mem (xs : List Nat) : allFin xs = true ↔ ∀ j, j < xs.length → (expOf (xs.getD j 0) == 2047) = false := by
  unfold allFin
  rw [List.all_eq_true]
  constructor
  · intro h j hj
    have := h _ (mem_get xs j hj)
    simpa using this
  · intro h x hx
    obtain ⟨i, hi, rfl⟩ := List.getElem_of_mem hx
    have := h i hi
    rw [List.getD_eq_getElem?_getD, List.getElem?_eq_getElem hi] at this
    simpa using this
theorem pair_fin (xs ys : List Nat) (N : Nat) (h1 : xs.length = N) (h2 : ys.length = N) : ((allFin xs && allFin ys) = true → nfP xs ys N = []) ∧ ((allFin xs && allFin ys) = false → nfP xs ys N ≠ []) := by
  constructor
  · intro h
    obtain ⟨a, b⟩ := Bool.and_eq_true_iff.1 h
    rw [allFin_mem] at a b
    refine nfP_nil xs ys N (fun j hj => ?_)
    unfold allFin
    simp only [List.all_cons, List.all_nil, Bool.and_true]
    rw [a j (by omega), b j (by omega)]
    rfl
  · intro h
    apply nfP_not
    apply Classical.byContradiction
    intro hc
    have hall : ∀ j, j < N → allFin [xs.getD j 0, ys.getD j 0] = true := fun j hj => by
      cases c : allFin [xs.getD j 0, ys.getD j 0] with
      | true => rfl
      | false => exact absurd ⟨j, hj, c⟩ hc
    have e1 : ∀ j, j < N → (expOf (xs.getD j 0) == 2047) = false ∧ (expOf (ys.getD j 0) == 2047) = false := fun j hj => by
      have := hall j hj
      unfold allFin at this
      simp only [List.all_cons, List.all_nil, Bool.and_true, Bool.and_eq_true, Bool.not_eq_true'] at this
      exact this
    have a : allFin xs = true := (allFin_mem xs).2 (fun j hj => (e1 j (by omega)).1)
    have b : allFin ys = true := (allFin_mem ys).2 (fun j hj => (e1 j (by omega)).2)
    rw [a, b] at h
    cases h
end Go.Proofs.YtehnkgonhgjeiaaGreatDoor

namespace Go.Proofs.YtehnkgonhgjeiaaGreatDoor
open Go.RowKit Go.IntWalk

/-- The exact dot product, rounded once; the error's number. -/
def dotV (xs ys : List Nat) (N M : Nat) : Nat := if N ≠ M ∨ 4096 < N then 0 else if (allFin xs && allFin ys) = true then rndI (dotSv xs ys N) (-2148) else sumC (nfP xs ys N)
def dotE (N M : Nat) : Int := if N ≠ M then 3 else if 4096 < N then 2 else 0
theorem Owns.flt {w : World} {base : Nat} {v : Value} {xs : List Nat} (h : Owns w base v xs) (h0 : xs = [] → v = .slice none 0 0) : ∃ sa cap, v = .slice sa xs.length cap ∧ FltAt w.heap.size w (.slice sa xs.length cap) xs := by
  by_cases c : xs = []
  · exact ⟨none, 0, by rw [h0 c, c]; rfl, .inl ⟨by rw [c]; rfl, c⟩⟩
  · have hc := fun g hg => World.ownsRow.cells h (g := g) hg
    rcases h.2 with ⟨_, hn⟩ | ⟨g, cap, cur, rfl, h1, h2, h3, h4, _⟩
    · exact absurd (List.length_eq_zero_iff.1 hn) c
    · refine ⟨_, cap, rfl, .inr ⟨g, 0, cap, rfl, (Array.getElem?_eq_some_iff.1 h2).1, fun i hi => ?_⟩⟩
      have := hc g rfl i (.float .f64 (xs.getD i 0)) (by simp [hi, List.getD])
      have hadd : (⟨g, 0, none⟩ : Addr).add i = ⟨g, i, none⟩ := by unfold Addr.add; split <;> simp_all
      rw [hadd] at this
      rw [Nat.zero_add]
      exact this
theorem dot_size (xs ys : List Nat) (hf : FinL xs) (hg : FinL ys) (hl : ys.length = xs.length) (hn : xs.length ≤ 4096) : (dotSv xs ys xs.length).natAbs < 2 ^ (kN + kN + 13) := by
  have h1 := dot_le xs ys hf hg hl xs.length (Nat.le_refl _)
  rw [Nat.pow_add]
  have h0 : 0 < 2 ^ (kN + kN) := Nat.two_pow_pos _
  generalize 2 ^ (kN + kN) = P at h0 h1
  have h2 : xs.length * P ≤ 4096 * P := Nat.mul_le_mul_right _ hn
  omega
theorem nfC_mem (xs ys : List Nat) : ∀ k, (∀ j, j < k → xs.getD j 0 < 18446744073709551616 ∧ ys.getD j 0 < 18446744073709551616) → (∀ x ∈ (nfC xs ys k).1, x < 18446744073709551616) ∧ (∀ x ∈ (nfC xs ys k).2, x < 18446744073709551616)
  | 0, _ => ⟨(fun x hx => by cases hx), (fun x hx => by cases hx)⟩
  | k + 1, h => by
    obtain ⟨i1, i2⟩ := nfC_mem xs ys k (fun j hj => h j (by omega))
    unfold nfC
    by_cases c : allFin [xs.getD k 0, ys.getD k 0] = true
    · rw [if_pos c]; exact ⟨i1, i2⟩
    · rw [if_neg c]
      refine ⟨fun x hx => ?_, fun x hx => ?_⟩
      · rcases List.mem_append.1 hx with hx | hx
        · exact i1 x hx
        · obtain rfl : x = _ := by simpa using hx
          exact (h k (by omega)).1
      · rcases List.mem_append.1 hx with hx | hx
        · exact i2 x hx
        · obtain rfl : x = _ := by simpa using hx
          exact (h k (by omega)).2
end Go.Proofs.YtehnkgonhgjeiaaGreatDoor

namespace Go.Proofs.YtehnkgonhgjeiaaGreatDoor
open Go.RowKit Go.IntWalk

theorem step_append_fl {ops : Array Oper} {o : Oper} {a : Act} {w : World} {K : Act → World → Prop} {Q : Exit → Act → World → Prop} {E : Prop}
    (hw : Region.wanted o (yielded ops a.tmps) = true) (s x : Operand) (hop : o.op = Op.call { callee := Callee.builtin Builtin.append, args := #[s, x], argTypes := #[23, 23] })
    (sv xv : Value) (hs : a.eval s = sv) (hx : a.eval x = xv)
    (hr : ∃ a' k' cap' w', (Builtin.append_ #[23, 23] o.type #[sv, xv]).run Tryz.prog w = .ok (.slice a' k' cap') w' ∧ K (a.put o.dst (.slice a' k' cap')) w') :
    if Region.wanted o (yielded ops a.tmps) = true then Oper.wp Tryz.prog o a w K Q else E := by
  rw [if_pos hw]
  obtain ⟨a', k', cap', w', hrun, hK⟩ := hr
  unfold Oper.wp
  simp [execOp, hop, resolve, invoke, builtin, hs, hx, hrun, Result.andThen]
  exact hK
/-- One number appended to numbers of one's own. -/
theorem app_one (W : World) (base : Nat) (u : Value) (zs : List Nat) (z : Nat) (ho : Owns W base u zs) (hn : zs.length ≤ 100000000) (hb : base ≤ W.heap.size) :
    ∃ g c w5, (Builtin.append_ #[23, 23] 23 #[u, .slice (some ⟨W.heap.size, 0, none⟩) 1 1]).run Tryz.prog (W.alloc (.cells #[.float .f64 z] 25)) = .ok (.slice (some ⟨g, 0, none⟩) (zs.length + 1) c) w5 ∧ Owns w5 base (.slice (some ⟨g, 0, none⟩) (zs.length + 1) c) (zs ++ [z]) ∧ Below base W w5 := by
  obtain ⟨i0, hi, hz0, hz1, hz2⟩ := info_parts info_f
  have hown := ho
  unfold Owns at hown
  obtain ⟨v', w', hrun, r1, r2, _⟩ := run_append_own (P := Tryz.prog) (W.alloc (.cells #[.float .f64 z] 25)) base 23 23 25 i0 (.float .f64 0) 1 8 Tryz.underlying23 hi hz0 hz1 hz2 rfl (by decide) u _ _ (hown.alloc _) ⟨W.heap.size, 0, none⟩ 1 1 [.float .f64 z] rfl (cell_one_new _ _ _) (by simp [Value.oneCell']) (by unfold maxLen; omega) (by omega) (by simp; omega)
  obtain ⟨g', cap', rfl⟩ := ownsRow_succ r1
  refine ⟨g', cap', w', hrun, ?_, ((Below.refl _ _).alloc hb _).grown r2 (by simp; omega) (fun k hk => (World.ownsRow.lt hown k hk).1)⟩
  show w'.ownsRow _ _ _ _ _ _
  rw [List.length_append, List.map_append]
  exact r1
theorem allFin_two (x y : Nat) : allFin [x, y] = (!(expOf x == 2047) && !(expOf y == 2047)) := by
  unfold allFin
  simp
end Go.Proofs.YtehnkgonhgjeiaaGreatDoor

namespace Go.Proofs.YtehnkgonhgjeiaaGreatDoor
open Go.RowKit Go.IntWalk

set_option maxHeartbeats 400000 in
theorem same_yes (V : Nat) (w : World) (hV : V < 18446744073709551616) (hc : canonOf V = V) : Calls Tryz.prog 12 #[.float .f64 V, .float .f64 V] w fun e w' => e = .returned (.bool true) ∧ w' = w := by
  have h1 := f64bits
  have HB := hid (fun W => bits_any V W hV)
  rw [hc] at HB
  go_enter Tryz.func12, Tryz.ntmps12
  go_wp2_with fail
  refine (HB.out _).mono ?_
  rintro e w' ⟨rfl, rfl⟩
  go_wp2
  go_ret
  exact ⟨rfl, rfl⟩
set_option maxHeartbeats 400000 in
theorem told_yes (V : Nat) (E : Int) (w : World) (hV : V < 18446744073709551616) (hc : canonOf V = V) : Calls Tryz.prog 21 #[.float .f64 V, .int .i64 E, .float .f64 V, .int .i64 E] w fun e w' => e = .returned (.bool true) ∧ w' = w := by
  have HS := hid (fun W => same_yes V W hV hc)
  have he : (E == E) = true := by simp
  clear hV hc
  go_enter Tryz.func21, Tryz.ntmps21
  go_wp2_with fail
  refine (HS.out _).mono ?_
  rintro e w' ⟨rfl, rfl⟩
  go_wp2
  go_ret
  exact ⟨rfl, rfl⟩
theorem rndI_canon (z e : Int) : rndI z e < 18446744073709551616 ∧ canonOf (rndI z e) = rndI z e := by
  have h := (near_rnd false z.natAbs e).2
  unfold rndI
  have h1 := signN_mod (decide (z < 0)) (rndM z.natAbs e) (by omega)
  refine ⟨h1.2.2, ?_⟩
  unfold canonOf
  rw [if_neg (by rw [h1.1]; omega)]
theorem dotV_canon (xs ys : List Nat) (N M : Nat) : dotV xs ys N M < 18446744073709551616 ∧ canonOf (dotV xs ys N M) = dotV xs ys N M := by
  unfold dotV
  split
  · decide
  · split
    · exact rndI_canon _ _
    · exact ⟨sumC_lt _, sumC_can _⟩
theorem dotL_canon (xs ys : List Nat) (N M : Nat) : (if N = M then sumC (prodL xs ys N) else 0) < 18446744073709551616 ∧ canonOf (if N = M then sumC (prodL xs ys N) else 0) = (if N = M then sumC (prodL xs ys N) else 0) := by
  split
  · exact ⟨sumC_lt _, sumC_can _⟩
  · decide
end Go.Proofs.YtehnkgonhgjeiaaGreatDoor
