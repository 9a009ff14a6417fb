
/- DyadOnce, of finite numbers. -/
import Derived.Test.YtpncignipghicaaDoorP35
import Derived.Test.YtpncignipghicaaDoorDzL
import Derived.Test.YtpncignipghicaaDoorP42
namespace Go.Proofs.YtpncignipghicaaDoor
open Go.RowKit Go.IntWalk

theorem sum2 (x y : Nat) : sumSv [x, y] 2 = sv x + sv y := by
  show 0 + sv x + sv y = _
  omega
theorem finl2 (x y : Nat) (hx : x < 18446744073709551616) (hy : y < 18446744073709551616) (fx : x % 9223372036854775808 < 9218868437227405312) (fy : y % 9223372036854775808 < 9218868437227405312) : FinL [x, y] := fun i hi => by
  have hi2 : i < 2 := hi
  rcases (show i = 0 ∨ i = 1 by omega) with rfl | rfl
  · exact ⟨hx, fx⟩
  · exact ⟨hy, fy⟩
theorem finl1 (x : Nat) (hx : x < 18446744073709551616) (fx : x % 9223372036854775808 < 9218868437227405312) : FinL [x] := fun i hi => by
  have hi2 : i < 1 := hi
  have : i = 0 := by omega
  subst this
  exact ⟨hx, fx⟩
theorem sign_lt (s : Bool) (r : Nat) (h : r ≤ 9218868437227405312) : signN s r < 18446744073709551616 ∧ signN s r % 9223372036854775808 = r := by
  unfold signN
  cases s
  · rw [if_neg (by decide)]; omega
  · rw [if_pos rfl]; omega
theorem rndI_lt (z e : Int) : rndI z e < 18446744073709551616 ∧ rndI z e % 9223372036854775808 ≤ 9218868437227405312 := by
  have h := (near_rnd false z.natAbs e).2
  obtain ⟨a, b⟩ := sign_lt (decide (z < 0)) _ h
  unfold rndI
  exact ⟨a, by rw [b]; exact h⟩
/-- What is rounded from a value, against the machine's. -/
theorem once_eq (z e : Int) (s : Bool) (hs : z ≠ 0 → s = decide (z < 0)) : (FloatKind.f64.format.order (rndI z e) (signN s (rndM z.natAbs e)) != some .eq) = false ∧ (z ≠ 0 → signN s (rndM z.natAbs e) = rndI z e) ∧ (z = 0 → rndI z e = 0) ∧ signN s (rndM z.natAbs e) < 18446744073709551616 := by
  have h := (near_rnd false z.natAbs e).2
  obtain ⟨a, b⟩ := sign_lt s _ h
  by_cases hz : z = 0
  · have e0 : rndM z.natAbs e = 0 := by rw [hz]; unfold rndM; rw [Int.natAbs_zero, if_pos rfl]
    have e1 : rndI z e = 0 := by unfold rndI; rw [e0, hz]; rfl
    refine ⟨?_, fun c => absurd hz c, fun _ => e1, a⟩
    rw [e1, e0]
    cases s <;> decide +kernel
  · have e1 : signN s (rndM z.natAbs e) = rndI z e := by unfold rndI; rw [hs hz]
    refine ⟨?_, fun _ => e1, fun c => absurd c hz, a⟩
    rw [e1]
    obtain ⟨c, d⟩ := rndI_lt z e
    rw [order_self _ c]
    exact decide_eq_false (by omega)
theorem own_eq (x : Nat) (hx : x < 18446744073709551616) (fx : x % 9223372036854775808 < 9218868437227405312) : (FloatKind.f64.format.order (ownF x) x != some .eq) = false ∧ (x % 9223372036854775808 ≠ 0 → ownF x = x) := by
  unfold ownF
  by_cases h : x % 9223372036854775808 = 0
  · rw [if_pos h]
    refine ⟨?_, fun c => absurd h c⟩
    rcases (show x = 0 ∨ x = 9223372036854775808 by omega) with rfl | rfl <;> decide +kernel
  · rw [if_neg h, order_self _ hx]
    exact ⟨decide_eq_false (by omega), fun _ => rfl⟩
theorem dyat_nil {w : World} {neg : Bool} {a : Option Addr} {n cap : Nat} {e' z e : Int} (h : DyAt w neg a n cap e' z e) (hz : z = 0) : n = 0 := by
  obtain ⟨L, rfl, _, _, hv, _⟩ := h
  rcases hv.val with ⟨_, l0, _⟩ | ⟨_, _, z0, _⟩
  · rw [l0]; rfl
  · exact absurd hz z0
set_option maxHeartbeats 400000 in
theorem same3_any (x : Nat) (w : World) : Calls Tryd.prog 22 #[.float .f64 x, .float .f64 x] w fun r w' => r = .returned (.bool true) ∧ w' = w := by
  have h1 := f64bits
  go_enter Tryd.func22, Tryd.ntmps22
  go_wp2
  go_ret
  exact ⟨ret_bool (by simp), rfl⟩
set_option maxRecDepth 4000 in
set_option maxHeartbeats 4000000 in
theorem once_good (x y : Nat) (w : World) (hx : x < 18446744073709551616) (hy : y < 18446744073709551616) (fx : x % 9223372036854775808 < 9218868437227405312) (fy : y % 9223372036854775808 < 9218868437227405312) (hT : Tab w) (hg : 2 < w.heap.size) (hT3 : Tab32 w) (hs : 1 < w.heap.size) :
    Calls Tryd.prog 5 #[.int .u64 x, .int .u64 y] w fun r w' => r = .returned (.bool true) ∧ Below w.heap.size w w' := by
  have h64 := f64from
  have h64b := f64bits
  have HT : Hid (∀ W, Below w.heap.size w W → Tab W ∧ 2 < W.heap.size ∧ Tab32 W ∧ 1 < W.heap.size) := fun W hW => ⟨hT.below hg hW, Nat.lt_of_lt_of_le hg hW.size, hT3.below hs hW, Nat.lt_of_lt_of_le hs hW.size⟩
  have HA : Hid (∀ W, Below w.heap.size w W → Calls Tryd.prog 11 #[] W fun r w' => r = .returned (.bool true) ∧ Below W.heap.size W w') := fun W hW => awake3_any W (HT.out W hW).1 (HT.out W hW).2.1 (HT.out W hW).2.2.1 (HT.out W hW).2.2.2
  have HS : Hid (∀ W b, Below w.heap.size w W → b < W.heap.size → W.cell? ⟨b, 0, none⟩ = some (.float .f64 x) → W.cell? ⟨b, 1, none⟩ = some (.float .f64 y) → Calls Tryd.prog 18 #[.slice (some ⟨b, 0, none⟩) 2 2] W fun r w' => DyOut (sv x + sv y) (-1074) W.heap.size r w' ∧ Below W.heap.size W w') := fun W b hW hb h0 h1 => by
    have := Sum_fin [x, y] b 0 2 W (nums2 W b x y hb h0 h1) (finl2 x y hx hy fx fy) (by simp) (HT.out W hW).1 (HT.out W hW).2.1 (HT.out W hW).2.2.1 (HT.out W hW).2.2.2
    rw [show [x, y].length = 2 from rfl, sum2] at this
    exact this
  have HD : Hid (∀ W b c, Below w.heap.size w W → b < W.heap.size → c < W.heap.size → W.cell? ⟨b, 0, none⟩ = some (.float .f64 x) → W.cell? ⟨c, 0, none⟩ = some (.float .f64 y) → Calls Tryd.prog 19 #[.slice (some ⟨b, 0, none⟩) 1 1, .slice (some ⟨c, 0, none⟩) 1 1] W fun r w' => DyOut (sv x * sv y) (-2148) W.heap.size r w' ∧ Below W.heap.size W w') := fun W b c hW hb hc h0 h1 => by
    have := Dot_fin [x] [y] b 0 1 c 0 1 W rfl (nums1 W b x hb h0) (nums1 W c y hc h1) (finl1 x hx fx) (finl1 y hy fy) (by simp) (HT.out W hW).1 (HT.out W hW).2.1 (HT.out W hW).2.2.1 (HT.out W hW).2.2.2
    rw [show [x].length = 1 from rfl, show dotSv [x] [y] 1 = sv x * sv y from Int.zero_add _] at this
    exact this
  have HF1 : Hid (∀ W, Calls Tryd.prog 20 #[.float .f64 x] W fun r w' => r = .returned (.bool true) ∧ w' = W) := fun W => by
    have := rfinite_any x W hx
    rw [exp_fin x fx] at this
    exact this
  have HF2 : Hid (∀ W, Calls Tryd.prog 20 #[.float .f64 y] W fun r w' => r = .returned (.bool true) ∧ w' = W) := fun W => by
    have := rfinite_any y W hy
    rw [exp_fin y fy] at this
    exact this
  have bx : (sv x).natAbs < 2 ^ kN := by obtain ⟨_, _, _, h, _⟩ := sv_parts x fx; exact h
  have by' : (sv y).natAbs < 2 ^ kN := by obtain ⟨_, _, _, h, _⟩ := sv_parts y fy; exact h
  have hkN := kN_is
  have HR1 : Hid (∀ W n a l c e, Below w.heap.size w W → DyAt W n a l c e (sv x + sv y) (-1074) → Calls Tryd.prog 21 #[.agg #[.bool n, .slice a l c, .int .i64 e], .int .i64 0] W fun r w' => r = .returned (.tuple #[.float .f64 (rndI (sv x + sv y) (-1074)), .int .i64 0]) ∧ Below W.heap.size W w') := fun W n a l c e hW h =>
    Round0_dy n a l c (kN + 1) e _ _ W h (abs_add bx by') (by omega) (by omega) (by decide) (HT.out W hW).1 (HT.out W hW).2.1
  have HR2 : Hid (∀ W n a l c e, Below w.heap.size w W → DyAt W n a l c e (sv x * sv y) (-2148) → Calls Tryd.prog 21 #[.agg #[.bool n, .slice a l c, .int .i64 e], .int .i64 0] W fun r w' => r = .returned (.tuple #[.float .f64 (rndI (sv x * sv y) (-2148)), .int .i64 0]) ∧ Below W.heap.size W w') := fun W n a l c e hW h =>
    Round0_dy n a l c (kN + kN) e _ _ W h (abs_mul bx by') (by omega) (by omega) (by decide) (HT.out W hW).1 (HT.out W hW).2.1
  have HO : Hid (∀ W, Below w.heap.size w W → Calls Tryd.prog 9 #[.float .f64 x] W fun r w' => DyOut (sv x) (-1074) W.heap.size r w' ∧ Below W.heap.size W w') := fun W hW => Of_fin x W hx fx (HT.out W hW).1 (HT.out W hW).2.1 (HT.out W hW).2.2.1 (HT.out W hW).2.2.2
  have HRN : Hid (∀ W n a l c e mode, Below w.heap.size w W → DyAt W n a l c e (sv x) (-1074) → 0 ≤ mode → mode ≤ 4 → Calls Tryd.prog 21 #[.agg #[.bool n, .slice a l c, .int .i64 e], .int .i64 mode] W fun r w' => r = .returned (.tuple #[.float .f64 (ownF x), .int .i64 0]) ∧ Below W.heap.size W w') := fun W n a l c e mode hW h h1 h2 =>
    Round_num x n a l c e mode W hx fx h h1 h2 (HT.out W hW).1 (HT.out W hW).2.1
  obtain ⟨s1, ea, hs1⟩ := add_rnd x y hx hy fx fy
  obtain ⟨s2, em, hs2⟩ := mul_rnd x y hx hy fx fy
  obtain ⟨o1, _, _, _⟩ := once_eq (sv x + sv y) (-1074) s1 hs1
  obtain ⟨o2, o3, o4, o5⟩ := once_eq (sv x * sv y) (-2148) s2 hs2
  obtain ⟨v1, v2⟩ := own_eq x hx fx
  have hzp : (FloatKind.f64.format.order (rndI (sv x * sv y) (-2148)) 0 == some .eq) = decide (rndI (sv x * sv y) (-2148) % 9223372036854775808 = 0) := order_zero _ (rndI_lt _ _).1
  have hzx : (FloatKind.f64.format.order x 0 != some .eq) = decide (x % 9223372036854775808 ≠ 0) := by
    have := order_zero x hx
    rw [bne, this]
    by_cases c : x % 9223372036854775808 = 0 <;> simp [c]
  obtain ⟨S, hS⟩ : ∃ S, Hid (sv x + sv y = S) := ⟨_, rfl⟩
  obtain ⟨D, hD⟩ : ∃ D, Hid (sv x * sv y = D) := ⟨_, rfl⟩
  obtain ⟨X, hX⟩ : ∃ X, Hid (sv x = X) := ⟨_, rfl⟩
  rw [hS.out] at HS HR1 ea o1
  rw [hD.out] at HD HR2 em o2 o3 o4 o5 hzp
  rw [hX.out] at HO HRN
  obtain ⟨A1, hA1⟩ : ∃ A, Hid (rndI S (-1074) = A) := ⟨_, rfl⟩
  obtain ⟨A2, hA2⟩ : ∃ A, Hid (rndI D (-2148) = A) := ⟨_, rfl⟩
  obtain ⟨P1, hP1⟩ : ∃ A, Hid (signN s1 (rndM S.natAbs (-1074)) = A) := ⟨_, rfl⟩
  obtain ⟨P2, hP2⟩ : ∃ A, Hid (signN s2 (rndM D.natAbs (-2148)) = A) := ⟨_, rfl⟩
  obtain ⟨V, hV⟩ : ∃ A, Hid (ownF x = A) := ⟨_, rfl⟩
  rw [hA1.out] at HR1 o1
  rw [hP1.out] at ea o1
  rw [hA2.out] at HR2 o2 o3 o4 hzp
  rw [hP2.out] at em o2 o3 o5
  rw [hV.out] at HRN v1 v2
  have hadd : ∀ w : World, (binOp .add 29 (.float .f64 x) (.float .f64 y)).run Tryd.prog w = .ok (.float .f64 P1) w := fun w => run_float_arith w .add _ .f64 x y P1 ea
  have hmul : ∀ w : World, (binOp .mul 29 (.float .f64 x) (.float .f64 y)).run Tryd.prog w = .ok (.float .f64 P2) w := fun w => run_float_arith w .mul _ .f64 x y P2 em
  have O3 := hid o3
  have O4 := hid o4
  have V2 := hid v2
  have HW0 : Hid (Below w.heap.size w w) := Below.refl _ _
  clear hx hy fx fy hT hg hT3 hs bx by' hkN hs1 hs2 o3 o4 v2 ea em o5
  go_enter Tryd.func5, Tryd.ntmps5
  go_wp2_with fail
  refine (HS.out _ _ (HW0.out.alloc (Nat.le_refl _) _) (by simp) (by simp [go_sem]) (by simp [go_sem])).mono ?_
  rintro r w1 ⟨ho, hb⟩
  obtain ⟨n1, a1, l1, c1, e1, rfl, hr⟩ := ho.ret
  obtain ⟨W1, hW1⟩ : ∃ V, Hid (w1.alloc (DyBox n1 a1 l1 c1 e1) = V) := ⟨_, rfl⟩
  have hW1' : w1.alloc (DyBox n1 a1 l1 c1 e1) = W1 := hW1.out
  have HB1 : Hid (Below w.heap.size w W1) := by
    rw [← hW1.out]
    exact (((Below.refl _ _).alloc (Nat.le_refl _) _).trans (hb.mono (by simp))).alloc (by have := hb.size; simp at this; omega) _
  have Hv1 : Hid (DyVar W1 w1.heap.size n1 a1 l1 c1 e1 S (-1074)) := by rw [← hW1.out]; exact DyVar.new hr
  unfold DyBox at hW1'
  clear ho hb hr
  go_wp2_with fail
  refine (HD.out _ _ _ ((HB1.out.alloc HB1.out.size _).alloc (by have := HB1.out.size; simp; omega) _) (by simp; omega) (by simp) (by simp [go_sem]) (by simp [go_sem])).mono ?_
  rintro r w2 ⟨ho, hb⟩
  obtain ⟨n2, a2, l2, c2, e2, rfl, hr⟩ := ho.ret
  obtain ⟨W2, hW2⟩ : ∃ V, Hid (w2.alloc (DyBox n2 a2 l2 c2 e2) = V) := ⟨_, rfl⟩
  have hW2' : w2.alloc (DyBox n2 a2 l2 c2 e2) = W2 := hW2.out
  have HB2' : Hid (Below W1.heap.size W1 W2) := by
    have h2 := hb.size
    simp at h2
    rw [← hW2.out]
    exact ((((Below.refl W1.heap.size W1).alloc (Nat.le_refl _) _).alloc (by simp) _).trans (hb.mono (by simp; omega))).alloc (by omega) _
  have HB2 : Hid (Below w.heap.size w W2) := HB1.out.trans (HB2'.out.mono HB1.out.size)
  have Hv2 : Hid (DyVar W2 w2.heap.size n2 a2 l2 c2 e2 D (-2148)) := by rw [← hW2.out]; exact DyVar.new hr
  have Hv1 := hid (Hv1.out.below HB2'.out)
  unfold DyBox at hW2'
  clear ho hb hr HB2'
  go_wp2_with fail
  refine (HF1.out _).mono ?_
  rintro r w3 ⟨rfl, rfl⟩
  go_wp2_with fail
  refine (HF2.out _).mono ?_
  rintro r w3 ⟨rfl, rfl⟩
  have hc1 := Hv1.out.cells
  go_wp2_with fail
  refine (HR1.out _ _ _ _ _ _ HB2.out Hv1.out.2).mono ?_
  rintro r w4 ⟨rfl, hb⟩
  have Hv2 := hid (Hv2.out.below hb)
  have HB4 : Hid (Below w.heap.size w w4) := HB2.out.trans (hb.mono HB2.out.size)
  have hc2 := Hv2.out.cells
  clear hb
  go_wp2_with fail
  refine (HR2.out _ _ _ _ _ _ HB4.out Hv2.out.2).mono ?_
  rintro r w5 ⟨rfl, hb⟩
  have HB5 : Hid (Below w.heap.size w w5) := HB4.out.trans (hb.mono HB4.out.size)
  have Hv2 := hid (Hv2.out.below hb)
  have hc2 := Hv2.out.cells
  have HSM := hid (fun (W : World) => same3_any P2 W)
  clear hb
  by_cases hD0 : D = 0
  · have hA0 : A2 = 0 := O4.out hD0
    have hl0 : l2 = 0 := dyat_nil Hv2.out.2 hD0
    subst hA0 hl0
    have hz0 : (FloatKind.f64.format.order 0 0 == some .eq) = true := by decide +kernel
    clear hzp hD0
    go_wp2_with fail
    refine (HO.out _ HB5.out).mono ?_
    rintro r w6 ⟨ho, hb⟩
    obtain ⟨n6, a6, l6, c6, e6, rfl, hr⟩ := ho.ret
    obtain ⟨W6, hW6⟩ : ∃ V, Hid (w6.alloc (DyBox n6 a6 l6 c6 e6) = V) := ⟨_, rfl⟩
    have hW6' : w6.alloc (DyBox n6 a6 l6 c6 e6) = W6 := hW6.out
    have HB6 : Hid (Below w.heap.size w W6) := by
      rw [← hW6.out]
      exact (HB5.out.trans (hb.mono HB5.out.size)).alloc (by have := hb.size; have := HB5.out.size; omega) _
    have Hv6 : Hid (DyVar W6 w6.heap.size n6 a6 l6 c6 e6 X (-1074)) := by rw [← hW6.out]; exact DyVar.new hr
    unfold DyBox at hW6'
    clear ho hb hr
    go_wp2
    go_loopw [14] (fun i wr => ∃ k : Nat, k ≤ 5 ∧ i = .int .i64 k ∧ Hid (Below W6.heap.size W6 wr)) (fun i _ => 5 - (intOf i).toNat)
    case atStart => exact ⟨0, by decide, rfl, Below.refl _ _⟩
    case round =>
      obtain ⟨k, hk, rfl, HK⟩ := hrel
      have HKw : Hid (Below w.heap.size w wr) := HB6.out.trans (HK.out.mono HB6.out.size)
      have Hvk := hid (Hv6.out.below HK.out)
      have hck := Hvk.out.cells
      by_cases hlt : k < 5
      · have HRk := hid (HRN.out wr n6 a6 l6 c6 e6 (k : Int) HKw.out Hvk.out.2 (by omega) (by omega))
        have hk4 : (k : Int) ≤ 4 := by omega
        by_cases hx0 : x % 9223372036854775808 = 0
        · rw [decide_eq_false (fun c => c hx0)] at hzx
          have hx0 := hid hx0
          go_wp2_with fail
          refine HRk.out.mono ?_
          rintro r w7 ⟨rfl, hb⟩
          have HK7 : Hid (Below W6.heap.size W6 w7) := HK.out.trans (hb.mono HK.out.size)
          clear hb
          go_wp2
          refine ⟨⟨k + 1, by omega, by go_num, HK7⟩, ?_⟩
          simp [intOf]; omega
        · have hVx : V = x := V2.out hx0
          subst hVx
          rw [decide_eq_true hx0] at hzx
          have hx0 := hid hx0
          have HSV := hid (fun (W : World) => same3_any V W)
          go_wp2_with fail
          refine HRk.out.mono ?_
          rintro r w7 ⟨rfl, hb⟩
          have HK7 : Hid (Below W6.heap.size W6 w7) := HK.out.trans (hb.mono HK.out.size)
          clear hb
          go_wp2_with fail
          refine (HSV.out _).mono ?_
          rintro r w8 ⟨rfl, rfl⟩
          go_wp2
          refine ⟨⟨k + 1, by omega, by go_num, HK7⟩, ?_⟩
          simp [intOf]; omega
      · have hk5 : k = 5 := by omega
        subst hk5
        go_wp2_with fail
        refine (HA.out _ HKw.out).mono ?_
        rintro r w8 ⟨rfl, hb⟩
        have HBE : Hid (Below w.heap.size w w8) := HKw.out.trans (hb.mono HKw.out.size)
        clear hb
        go_wp2
        go_ret
        exact ⟨rfl, HBE.out⟩
  · have hA0 : P2 = A2 := O3.out hD0
    subst hA0
    have hD0 := hid hD0
    by_cases hz : P2 % 9223372036854775808 = 0
    · rw [decide_eq_true hz] at hzp
      have hz := hid hz
      by_cases hl : l2 = 0
      · subst hl
        go_wp2_with fail
        refine (HO.out _ HB5.out).mono ?_
        rintro r w6 ⟨ho, hb⟩
        obtain ⟨n6, a6, l6, c6, e6, rfl, hr⟩ := ho.ret
        obtain ⟨W6, hW6⟩ : ∃ V, Hid (w6.alloc (DyBox n6 a6 l6 c6 e6) = V) := ⟨_, rfl⟩
        have hW6' : w6.alloc (DyBox n6 a6 l6 c6 e6) = W6 := hW6.out
        have HB6 : Hid (Below w.heap.size w W6) := by
          rw [← hW6.out]
          exact (HB5.out.trans (hb.mono HB5.out.size)).alloc (by have := hb.size; have := HB5.out.size; omega) _
        have Hv6 : Hid (DyVar W6 w6.heap.size n6 a6 l6 c6 e6 X (-1074)) := by rw [← hW6.out]; exact DyVar.new hr
        unfold DyBox at hW6'
        clear ho hb hr
        go_wp2
        go_loopw [14] (fun i wr => ∃ k : Nat, k ≤ 5 ∧ i = .int .i64 k ∧ Hid (Below W6.heap.size W6 wr)) (fun i _ => 5 - (intOf i).toNat)
        case atStart => exact ⟨0, by decide, rfl, Below.refl _ _⟩
        case round =>
          obtain ⟨k, hk, rfl, HK⟩ := hrel
          have HKw : Hid (Below w.heap.size w wr) := HB6.out.trans (HK.out.mono HB6.out.size)
          have Hvk := hid (Hv6.out.below HK.out)
          have hck := Hvk.out.cells
          by_cases hlt : k < 5
          · have HRk := hid (HRN.out wr n6 a6 l6 c6 e6 (k : Int) HKw.out Hvk.out.2 (by omega) (by omega))
            have hk4 : (k : Int) ≤ 4 := by omega
            by_cases hx0 : x % 9223372036854775808 = 0
            · rw [decide_eq_false (fun c => c hx0)] at hzx
              have hx0 := hid hx0
              go_wp2_with fail
              refine HRk.out.mono ?_
              rintro r w7 ⟨rfl, hb⟩
              have HK7 : Hid (Below W6.heap.size W6 w7) := HK.out.trans (hb.mono HK.out.size)
              clear hb
              go_wp2
              refine ⟨⟨k + 1, by omega, by go_num, HK7⟩, ?_⟩
              simp [intOf]; omega
            · have hVx : V = x := V2.out hx0
              subst hVx
              rw [decide_eq_true hx0] at hzx
              have hx0 := hid hx0
              have HSV := hid (fun (W : World) => same3_any V W)
              go_wp2_with fail
              refine HRk.out.mono ?_
              rintro r w7 ⟨rfl, hb⟩
              have HK7 : Hid (Below W6.heap.size W6 w7) := HK.out.trans (hb.mono HK.out.size)
              clear hb
              go_wp2_with fail
              refine (HSV.out _).mono ?_
              rintro r w8 ⟨rfl, rfl⟩
              go_wp2
              refine ⟨⟨k + 1, by omega, by go_num, HK7⟩, ?_⟩
              simp [intOf]; omega
          · have hk5 : k = 5 := by omega
            subst hk5
            go_wp2_with fail
            refine (HA.out _ HKw.out).mono ?_
            rintro r w8 ⟨rfl, hb⟩
            have HBE : Hid (Below w.heap.size w w8) := HKw.out.trans (hb.mono HKw.out.size)
            clear hb
            go_wp2
            go_ret
            exact ⟨rfl, HBE.out⟩
      · have hl1 : (1 : Int) ≤ (l2 : Int) := by omega
        clear hl
        go_wp2_with fail
        refine (HSM.out _).mono ?_
        rintro r w9 ⟨rfl, rfl⟩
        go_wp2_with fail
        refine (HO.out _ HB5.out).mono ?_
        rintro r w6 ⟨ho, hb⟩
        obtain ⟨n6, a6, l6, c6, e6, rfl, hr⟩ := ho.ret
        obtain ⟨W6, hW6⟩ : ∃ V, Hid (w6.alloc (DyBox n6 a6 l6 c6 e6) = V) := ⟨_, rfl⟩
        have hW6' : w6.alloc (DyBox n6 a6 l6 c6 e6) = W6 := hW6.out
        have HB6 : Hid (Below w.heap.size w W6) := by
          rw [← hW6.out]
          exact (HB5.out.trans (hb.mono HB5.out.size)).alloc (by have := hb.size; have := HB5.out.size; omega) _
        have Hv6 : Hid (DyVar W6 w6.heap.size n6 a6 l6 c6 e6 X (-1074)) := by rw [← hW6.out]; exact DyVar.new hr
        unfold DyBox at hW6'
        clear ho hb hr
        go_wp2
        go_loopw [14] (fun i wr => ∃ k : Nat, k ≤ 5 ∧ i = .int .i64 k ∧ Hid (Below W6.heap.size W6 wr)) (fun i _ => 5 - (intOf i).toNat)
        case atStart => exact ⟨0, by decide, rfl, Below.refl _ _⟩
        case round =>
          obtain ⟨k, hk, rfl, HK⟩ := hrel
          have HKw : Hid (Below w.heap.size w wr) := HB6.out.trans (HK.out.mono HB6.out.size)
          have Hvk := hid (Hv6.out.below HK.out)
          have hck := Hvk.out.cells
          by_cases hlt : k < 5
          · have HRk := hid (HRN.out wr n6 a6 l6 c6 e6 (k : Int) HKw.out Hvk.out.2 (by omega) (by omega))
            have hk4 : (k : Int) ≤ 4 := by omega
            by_cases hx0 : x % 9223372036854775808 = 0
            · rw [decide_eq_false (fun c => c hx0)] at hzx
              have hx0 := hid hx0
              go_wp2_with fail
              refine HRk.out.mono ?_
              rintro r w7 ⟨rfl, hb⟩
              have HK7 : Hid (Below W6.heap.size W6 w7) := HK.out.trans (hb.mono HK.out.size)
              clear hb
              go_wp2
              refine ⟨⟨k + 1, by omega, by go_num, HK7⟩, ?_⟩
              simp [intOf]; omega
            · have hVx : V = x := V2.out hx0
              subst hVx
              rw [decide_eq_true hx0] at hzx
              have hx0 := hid hx0
              have HSV := hid (fun (W : World) => same3_any V W)
              go_wp2_with fail
              refine HRk.out.mono ?_
              rintro r w7 ⟨rfl, hb⟩
              have HK7 : Hid (Below W6.heap.size W6 w7) := HK.out.trans (hb.mono HK.out.size)
              clear hb
              go_wp2_with fail
              refine (HSV.out _).mono ?_
              rintro r w8 ⟨rfl, rfl⟩
              go_wp2
              refine ⟨⟨k + 1, by omega, by go_num, HK7⟩, ?_⟩
              simp [intOf]; omega
          · have hk5 : k = 5 := by omega
            subst hk5
            go_wp2_with fail
            refine (HA.out _ HKw.out).mono ?_
            rintro r w8 ⟨rfl, hb⟩
            have HBE : Hid (Below w.heap.size w w8) := HKw.out.trans (hb.mono HKw.out.size)
            clear hb
            go_wp2
            go_ret
            exact ⟨rfl, HBE.out⟩
    · rw [decide_eq_false hz] at hzp
      have hz := hid hz
      go_wp2_with fail
      refine (HO.out _ HB5.out).mono ?_
      rintro r w6 ⟨ho, hb⟩
      obtain ⟨n6, a6, l6, c6, e6, rfl, hr⟩ := ho.ret
      obtain ⟨W6, hW6⟩ : ∃ V, Hid (w6.alloc (DyBox n6 a6 l6 c6 e6) = V) := ⟨_, rfl⟩
      have hW6' : w6.alloc (DyBox n6 a6 l6 c6 e6) = W6 := hW6.out
      have HB6 : Hid (Below w.heap.size w W6) := by
        rw [← hW6.out]
        exact (HB5.out.trans (hb.mono HB5.out.size)).alloc (by have := hb.size; have := HB5.out.size; omega) _
      have Hv6 : Hid (DyVar W6 w6.heap.size n6 a6 l6 c6 e6 X (-1074)) := by rw [← hW6.out]; exact DyVar.new hr
      unfold DyBox at hW6'
      clear ho hb hr
      go_wp2
      go_loopw [14] (fun i wr => ∃ k : Nat, k ≤ 5 ∧ i = .int .i64 k ∧ Hid (Below W6.heap.size W6 wr)) (fun i _ => 5 - (intOf i).toNat)
      case atStart => exact ⟨0, by decide, rfl, Below.refl _ _⟩
      case round =>
        obtain ⟨k, hk, rfl, HK⟩ := hrel
        have HKw : Hid (Below w.heap.size w wr) := HB6.out.trans (HK.out.mono HB6.out.size)
        have Hvk := hid (Hv6.out.below HK.out)
        have hck := Hvk.out.cells
        by_cases hlt : k < 5
        · have HRk := hid (HRN.out wr n6 a6 l6 c6 e6 (k : Int) HKw.out Hvk.out.2 (by omega) (by omega))
          have hk4 : (k : Int) ≤ 4 := by omega
          by_cases hx0 : x % 9223372036854775808 = 0
          · rw [decide_eq_false (fun c => c hx0)] at hzx
            have hx0 := hid hx0
            go_wp2_with fail
            refine HRk.out.mono ?_
            rintro r w7 ⟨rfl, hb⟩
            have HK7 : Hid (Below W6.heap.size W6 w7) := HK.out.trans (hb.mono HK.out.size)
            clear hb
            go_wp2
            refine ⟨⟨k + 1, by omega, by go_num, HK7⟩, ?_⟩
            simp [intOf]; omega
          · have hVx : V = x := V2.out hx0
            subst hVx
            rw [decide_eq_true hx0] at hzx
            have hx0 := hid hx0
            have HSV := hid (fun (W : World) => same3_any V W)
            go_wp2_with fail
            refine HRk.out.mono ?_
            rintro r w7 ⟨rfl, hb⟩
            have HK7 : Hid (Below W6.heap.size W6 w7) := HK.out.trans (hb.mono HK.out.size)
            clear hb
            go_wp2_with fail
            refine (HSV.out _).mono ?_
            rintro r w8 ⟨rfl, rfl⟩
            go_wp2
            refine ⟨⟨k + 1, by omega, by go_num, HK7⟩, ?_⟩
            simp [intOf]; omega
        · have hk5 : k = 5 := by omega
          subst hk5
          go_wp2_with fail
          refine (HA.out _ HKw.out).mono ?_
          rintro r w8 ⟨rfl, hb⟩
          have HBE : Hid (Below w.heap.size w w8) := HKw.out.trans (hb.mono HKw.out.size)
          clear hb
          go_wp2
          go_ret
          exact ⟨rfl, HBE.out⟩
end Go.Proofs.YtpncignipghicaaDoor
