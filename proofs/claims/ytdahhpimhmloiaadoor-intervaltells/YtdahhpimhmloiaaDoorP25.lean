
/- Point, Is, Has, In, Meets, Below: interval's and the document's. -/
import Derived.Test.YtdahhpimhmloiaaDoorP22
import Derived.Test.YtdahhpimhmloiaaDoorP24
namespace Go.Proofs.YtdahhpimhmloiaaDoor
open Go.RowKit Go.IntWalk

set_option maxHeartbeats 1000000 in
theorem Point_any (x : Nat) (w : World) : Calls Tryd.prog 17 #[.float .f64 x] w fun r w' => r = .returned (newV x x) ∧ Below w.heap.size w w' := by
  have HB0 : Hid (Below w.heap.size w (w.alloc (IBox 0 0))) := (Below.refl _ _).alloc (Nat.le_refl _) _
  have HRB := hid (fun (W : World) (h : Below (w.alloc (IBox 0 0)).heap.size (w.alloc (IBox 0 0)) W) => ikeep h)
  obtain ⟨W0, hW0⟩ : ∃ V, Hid (w.alloc (IBox 0 0) = V) := ⟨_, rfl⟩
  rw [hW0.out] at HB0 HRB
  unfold IBox at hW0
  have hW0' := hW0.out
  have hst := fstore
  have HN := hid (New_any x x)
  obtain ⟨p, q, e, hv⟩ : ∃ p q e, newV x x = .tuple #[IV p q, .int .i64 e] := by
    unfold newV
    split
    · exact ⟨_, _, _, rfl⟩
    · exact ⟨_, _, _, rfl⟩
  rw [hv] at HN ⊢
  clear hv
  unfold IV at HN
  go_enter Tryd.func17, Tryd.ntmps17
  go_wp2_with fail
  refine (HN.out _).mono ?_
  rintro r w2 ⟨rfl, hb2⟩
  have HR := HRB.out _ hb2
  have HB2 := hid (HB0.out.trans (hb2.mono HB0.out.size))
  obtain ⟨z0, z1, z2⟩ := icells_of (show w2.heap[w.heap.size]? = some (.cells #[.float .f64 0, .float .f64 0] 28) from HR)
  clear HR hb2
  go_wp2
  exact bodyPost_ret (v := .tuple #[IV p q, .int .i64 e]) (by simp [results, Tryd.results17, go_sem, z0, z1, IV]) rfl ⟨rfl, Below.setCell (Below.setCell HB2.out (Nat.le_refl _) _) (Nat.le_refl _) _⟩
/-- Beyond the greatest number: just the infinity. -/
theorem inf_up {x : Nat} (hx : x < 18446744073709551616) : (FloatKind.f64.format.order x 9218868437227405311 == some .gt) = (FloatKind.f64.format.order x 9218868437227405312 == some .eq) := by
  by_cases c : 9218868437227405312 < x % 9223372036854775808
  · rw [order_nan_l x _ c, order_nan_l x _ c]; rfl
  · have hn : x % 9223372036854775808 ≤ 9218868437227405312 := by omega
    obtain ⟨a1, _, a3, a4⟩ := sv_beyond hn
    rw [order_eq x _ hx (by decide) hn (by decide), order_eq x _ hx (by decide) hn (by decide)]
    show (some (compare (sv x) (sv 9218868437227405311)) == some .gt) = (some (compare (sv x) PI) == some .eq)
    by_cases k : sv x = PI
    · rw [cmp_eq k, cmp_gt (a1.2 k)]; rfl
    · rw [cmp_lt (show sv x < PI by omega)]
      rcases Int.lt_trichotomy (sv x) (sv 9218868437227405311) with d | d | d
      · rw [cmp_lt d]; rfl
      · rw [cmp_eq d]; rfl
      · exact absurd (a1.1 d) k
theorem inf_down {x : Nat} (hx : x < 18446744073709551616) : (FloatKind.f64.format.order (flipOf x) 9218868437227405311 == some .gt) = (FloatKind.f64.format.order x 18442240474082181120 == some .eq) := by
  by_cases c : 9218868437227405312 < x % 9223372036854775808
  · rw [order_nan_l x _ c, order_nan_l (flipOf x) _ (by rw [(flip6_md hx).1]; exact c)]; rfl
  · have hn : x % 9223372036854775808 ≤ 9218868437227405312 := by omega
    obtain ⟨_, a2, a3, a4⟩ := sv_beyond hn
    rw [svmin] at a2
    rw [order_eq x _ hx (by decide) hn (by decide), order_eq (flipOf x) _ (flip6_lt hx) (by decide) (by rw [(flip6_md hx).1]; exact hn) (by decide), pi_neg, flip6_sv hx]
    by_cases k : sv x = -PI
    · have := a2.2 k
      rw [cmp_eq k, cmp_gt (by omega)]; rfl
    · rw [cmp_gt (show -PI < sv x by omega)]
      rcases Int.lt_trichotomy (-sv x) (sv 9218868437227405311) with d | d | d
      · rw [cmp_lt d]; rfl
      · rw [cmp_eq d]; rfl
      · exact absurd (a2.1 (by omega)) k
set_option maxHeartbeats 1000000 in
theorem rIs_any (lo hi : Nat) (w : World) (h1 : lo < 18446744073709551616) (h2 : hi < 18446744073709551616) : Calls Tryd.prog 23 #[IV lo hi] w fun r w' => r = .returned (.bool (fullB lo hi || noneB lo hi)) ∧ Below w.heap.size w w' := by
  have HB0 : Hid (Below w.heap.size w (w.alloc (IBox lo hi))) := (Below.refl _ _).alloc (Nat.le_refl _) _
  have g1 := inew w (IBox lo hi)
  obtain ⟨W0, hW0⟩ : ∃ V, Hid (w.alloc (IBox lo hi) = V) := ⟨_, rfl⟩
  rw [hW0.out] at HB0 g1
  have HC : Hid (∀ W, Below W0.heap.size W0 W → W.cell? ⟨w.heap.size, 0, none⟩ = some (.float .f64 lo) ∧ W.cell? ⟨w.heap.size, 1, none⟩ = some (.float .f64 hi)) := fun W hW => by
    have t1 := icells_of ((hW.block _ (Array.getElem?_eq_some_iff.1 g1).1).trans g1)
    exact ⟨t1.1, t1.2.1⟩
  obtain ⟨d0, d1⟩ := HC.out W0 (Below.refl _ _)
  have HF := hid (fun (W : World) => rFull_any lo hi W h1 h2)
  have H1 := hid (isinf1_any lo)
  have H2 := hid (fun (W : World) => isinf2_any hi W h2)
  rw [inf_up h1] at H1
  rw [inf_down h2] at H2
  have HE : Hid (noneB lo hi = (FloatKind.f64.format.order lo 9218868437227405312 == some .eq && FloatKind.f64.format.order hi 18442240474082181120 == some .eq)) := rfl
  obtain ⟨N, hN⟩ : ∃ z, Hid (noneB lo hi = z) := ⟨_, rfl⟩
  rw [hN.out] at HE ⊢
  obtain ⟨F, hF⟩ : ∃ z, Hid (fullB lo hi = z) := ⟨_, rfl⟩
  obtain ⟨P, hP⟩ : ∃ z, Hid ((FloatKind.f64.format.order lo 9218868437227405312 == some .eq) = z) := ⟨_, rfl⟩
  obtain ⟨Q, hQ⟩ : ∃ z, Hid ((FloatKind.f64.format.order hi 18442240474082181120 == some .eq) = z) := ⟨_, rfl⟩
  rw [hF.out] at HF ⊢
  rw [hP.out] at H1 HE
  rw [hQ.out] at H2 HE
  unfold IBox at hW0
  have hW0' := hW0.out
  unfold IV at HF ⊢
  clear g1 h1 h2
  cases F
  · cases P
    · go_enter Tryd.func23, Tryd.ntmps23
      go_wp2_with fail
      refine (HF.out _).mono ?_
      rintro r w1 ⟨rfl, hb1⟩
      have HB1 := hid (HB0.out.trans (hb1.mono HB0.out.size))
      obtain ⟨k0, k1⟩ := HC.out _ hb1
      clear hb1
      go_wp2_with fail
      refine (H1.out _).mono ?_
      rintro r w2 ⟨rfl, rfl⟩
      go_wp2
      go_ret
      exact ⟨ret_boolV (by rw [HE.out]; rfl), HB1.out⟩
    · go_enter Tryd.func23, Tryd.ntmps23
      go_wp2_with fail
      refine (HF.out _).mono ?_
      rintro r w1 ⟨rfl, hb1⟩
      have HB1 := hid (HB0.out.trans (hb1.mono HB0.out.size))
      obtain ⟨k0, k1⟩ := HC.out _ hb1
      clear hb1
      go_wp2_with fail
      refine (H1.out _).mono ?_
      rintro r w2 ⟨rfl, rfl⟩
      go_wp2_with fail
      refine (H2.out _).mono ?_
      rintro r w2 ⟨rfl, rfl⟩
      go_wp2
      go_ret
      exact ⟨ret_boolV (by rw [HE.out]; rfl), HB1.out⟩
  · go_enter Tryd.func23, Tryd.ntmps23
    go_wp2_with fail
    refine (HF.out _).mono ?_
    rintro r w1 ⟨rfl, hb1⟩
    have HB1 := hid (HB0.out.trans (hb1.mono HB0.out.size))
    clear hb1
    go_wp2
    go_ret
    exact ⟨rfl, HB1.out⟩
/-- Has' answer. -/
def hasB (a b x : Nat) : Bool := fullB a b && (finB x && (leB a x && leB x b))
theorem nan_le {x y : Nat} (h : 9218868437227405312 < x % 9223372036854775808 ∨ 9218868437227405312 < y % 9223372036854775808) : leB x y = false := by
  unfold leB
  rcases h with h | h
  · rw [order_nan_l x y h]; rfl
  · rw [order_nan_r x y h]; rfl
theorem le_nn {x y : Nat} (hx : Nn x) (hy : Nn y) : leB x y = decide (sv x ≤ sv y) := by
  unfold leB
  rw [order_eq x y hx.1 hy.1 hx.2 hy.2]
  rcases Int.lt_trichotomy (sv x) (sv y) with c | c | c
  · rw [cmp_lt c, decide_eq_true (by omega)]; rfl
  · rw [cmp_eq c, decide_eq_true (by omega)]; rfl
  · rw [cmp_gt c, decide_eq_false (by omega)]; rfl
theorem cn_nn {x : Nat} (h : Cn x) : Nn x := ⟨h.1, h.2.1⟩
theorem le_plus {a x : Nat} (ha : Nn a) (hx : x < 18446744073709551616) : leB (plusOf a) x = leB a x ∧ leB x (plusOf a) = leB x a := by
  by_cases c : 9218868437227405312 < x % 9223372036854775808
  · rw [nan_le (Or.inr c), nan_le (Or.inr c), nan_le (Or.inl c), nan_le (Or.inl c)]
    exact ⟨rfl, rfl⟩
  · have hn : Nn x := ⟨hx, by omega⟩
    have hp := cn_nn (cn_plus ha.1 ha.2)
    rw [le_nn hp hn, le_nn ha hn, le_nn hn hp, le_nn hn ha, plus_sv a ha.1 ha.2]
    exact ⟨rfl, rfl⟩
theorem has_is {a b x : Nat} (h1 : E2 a b) (hx : x < 18446744073709551616) : (leB (btLo a b) x && (leB x (btHi a b) && !decide (x % 9223372036854775808 = 9218868437227405312))) = hasB a b x := by
  unfold hasB
  by_cases c : fullB a b = true
  · obtain ⟨n1, n2⟩ := full_nn h1.1 h1.2 c
    have e1 : btLo a b = plusOf a := if_pos c
    have e2 : btHi a b = plusOf b := if_pos c
    rw [e1, e2, (le_plus n1 hx).1, (le_plus n2 hx).2, c, Bool.true_and]
    unfold finB
    by_cases d : 9218868437227405312 < x % 9223372036854775808
    · rw [nan_le (Or.inr d), decide_eq_false (show ¬ x % 9223372036854775808 < 9218868437227405312 by omega)]; rfl
    · by_cases k : x % 9223372036854775808 = 9218868437227405312
      · rw [decide_eq_true k, decide_eq_false (by omega)]
        cases leB a x <;> cases leB x b <;> rfl
      · rw [decide_eq_false k, decide_eq_true (by omega)]
        cases leB a x <;> cases leB x b <;> rfl
  · have e1 : btLo a b = 9218868437227405312 := if_neg c
    have e2 : btHi a b = 18442240474082181120 := if_neg c
    rw [e1, e2, Bool.eq_false_iff.2 c, Bool.false_and]
    by_cases d : 9218868437227405312 < x % 9223372036854775808
    · rw [nan_le (Or.inr d)]; rfl
    · have hn : Nn x := ⟨hx, by omega⟩
      obtain ⟨_, _, b3, b4⟩ := sv_beyond hn.2
      have hp := pi_pos
      rw [le_nn (cn_nn cn_pi) hn, le_nn hn (cn_nn cn_ni), pi_neg]
      show (decide (PI ≤ sv x) && _) = false
      by_cases k : PI ≤ sv x
      · rw [decide_eq_false (show ¬ sv x ≤ -PI by omega)]
        cases decide (PI ≤ sv x) <;> rfl
      · rw [decide_eq_false k]; rfl
end Go.Proofs.YtdahhpimhmloiaaDoor
