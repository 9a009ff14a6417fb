
/- The middle, the radius and the width of an interval. -/
import Derived.Test.YtilffgmekeeohaaDoorP22
namespace Go.Proofs.YtilffgmekeeohaaDoor
open Go.RowKit Go.IntWalk

theorem cn_eqB {x y : Nat} (hx : Cn x) (hy : Cn y) : (FloatKind.f64.format.order x y == some .eq) = decide (x = y) := by
  rw [cn_order hx hy]
  by_cases c : x = y
  · rw [decide_eq_true c, cmp_eq (by rw [c])]; rfl
  · rw [decide_eq_false c]
    rcases Int.lt_trichotomy (sv x) (sv y) with d | d | d
    · rw [cmp_lt d]; rfl
    · exact absurd (cn_inj hx hy d) c
    · rw [cmp_gt d]; rfl
theorem mid_full (A B : Nat) (hA : Cn A) (hB : Cn B) (h : sv A ≤ sv B ∧ sv A < PI ∧ -PI < sv B) : ∃ m, (Cn m ∧ m % 9223372036854775808 < 9218868437227405312 ∧ sv A ≤ sv m ∧ sv m ≤ sv B) ∧ ∀ lo hi w, btLo lo hi = A → btHi lo hi = B → Calls Tryd.prog 6 #[IV lo hi] w fun r w' => r = .returned (.float .f64 m) ∧ Below w.heap.size w w' := by
  have eN : noneB A B = false := by
    unfold noneB
    rw [cn_eqB hA cn_pi, decide_eq_false (by intro c; rw [c] at h; have : sv 9218868437227405312 = PI := rfl; omega)]
    rfl
  have e2 : (FloatKind.f64.format.order A 18442240474082181120 == some .eq && FloatKind.f64.format.order B 9218868437227405312 == some .eq) = (decide (A = 18442240474082181120) && decide (B = 9218868437227405312)) := by rw [cn_eqB hA cn_ni, cn_eqB hB cn_pi]
  have e3 : (FloatKind.f64.format.order B 9218868437227405311 == some .gt) = decide (B = 9218868437227405312) := by rw [inf_up hB.1, cn_eqB hB cn_pi]
  have e4 : (FloatKind.f64.format.order (flipOf A) 9218868437227405311 == some .gt) = decide (A = 18442240474082181120) := by rw [inf_down hA.1, cn_eqB hA cn_ni]
  have nA : A ≠ 9218868437227405312 := by intro c; rw [c] at h; have : sv 9218868437227405312 = PI := rfl; omega
  have nB : B ≠ 18442240474082181120 := by intro c; rw [c, pi_neg] at h; omega
  have kmx := svmax
  have kmn := svmin
  have hmp : 0 < sv 9218868437227405311 := by decide +kernel
  have hp := pi_pos
  have ep : sv 9218868437227405312 = PI := rfl
  have mxF : Cn 9218868437227405311 ∧ 9218868437227405311 % 9223372036854775808 < 9218868437227405312 := ⟨⟨by decide, by decide, by decide⟩, by decide⟩
  have mnF : Cn 18442240474082181119 ∧ 18442240474082181119 % 9223372036854775808 < 9218868437227405312 := ⟨⟨by decide, by decide, by decide⟩, by decide⟩
  by_cases cA : A = 18442240474082181120
  · by_cases cB : B = 9218868437227405312
    · refine ⟨0, ⟨cn_0, by decide, ?_, ?_⟩, fun lo hi w ea eb => ?_⟩
      · rw [cA, pi_neg]; have : sv 0 = 0 := by decide +kernel
        omega
      · rw [cB, ep]; have : sv 0 = 0 := by decide +kernel
        omega
      · refine Mid_core lo hi 0 0 true true true w (by rw [ea]; exact hA.1) (by rw [ea, eb]; exact eN) (by rw [ea, eb, e2, decide_eq_true cA, decide_eq_true cB]; rfl) (by rw [eb, e3, decide_eq_true cB]) (by rw [ea, e4, decide_eq_true cA]) rfl (fun k => by cases k)
    · refine ⟨18442240474082181119, ⟨mnF.1, mnF.2, ?_, ?_⟩, fun lo hi w ea eb => ?_⟩
      · rw [cA, pi_neg, kmn]; omega
      · rw [kmn]
        have fB : B % 9223372036854775808 < 9218868437227405312 := by
          apply Classical.byContradiction
          intro c
          rcases cn_inf hB c with k | k
          · exact cB k
          · exact nB k
        exact (max_fin fB).1
      · refine Mid_core lo hi 0 _ false false true w (by rw [ea]; exact hA.1) (by rw [ea, eb]; exact eN) (by rw [ea, eb, e2, decide_eq_false cB, Bool.and_false]) (by rw [eb, e3, decide_eq_false cB]) (by rw [ea, e4, decide_eq_true cA]) rfl (fun _ _ k => by cases k)
  · have fA : A % 9223372036854775808 < 9218868437227405312 := by
      apply Classical.byContradiction
      intro c
      rcases cn_inf hA c with k | k
      · exact nA k
      · exact cA k
    by_cases cB : B = 9218868437227405312
    · refine ⟨9218868437227405311, ⟨mxF.1, mxF.2, (max_fin fA).2, ?_⟩, fun lo hi w ea eb => ?_⟩
      · rw [cB, ep]; omega
      · refine Mid_core lo hi 0 _ false true false w (by rw [ea]; exact hA.1) (by rw [ea, eb]; exact eN) (by rw [ea, eb, e2, decide_eq_false cA, Bool.false_and]) (by rw [eb, e3, decide_eq_true cB]) (by rw [ea, e4, decide_eq_false cA]) rfl (fun _ k => by cases k)
    · have fB : B % 9223372036854775808 < 9218868437227405312 := by
        apply Classical.byContradiction
        intro c
        rcases cn_inf hB c with k | k
        · exact cB k
        · exact nB k
      obtain ⟨q, ⟨q1, q2, q3, q4⟩, hq⟩ := half_fin A B hA hB fA fB h.1
      have ps := plus_sv q q1 (by omega)
      have pc := cn_plus q1 (by omega : q % 9223372036854775808 ≤ 9218868437227405312)
      have pf : plusOf q % 9223372036854775808 < 9218868437227405312 := by
        unfold plusOf
        split
        · decide
        · exact q2
      refine ⟨plusOf q, ⟨pc, pf, by rw [ps]; exact q3, by rw [ps]; exact q4⟩, fun lo hi w ea eb => ?_⟩
      refine Mid_core lo hi q _ false false false w (by rw [ea]; exact hA.1) (by rw [ea, eb]; exact eN) (by rw [ea, eb, e2, decide_eq_false cA, Bool.false_and]) (by rw [eb, e3, decide_eq_false cB]) (by rw [ea, e4, decide_eq_false cA]) rfl (fun _ _ _ => by rw [ea, eb]; exact hq)
/-- What the law asks of the three. -/
theorem centre_full (lo hi : Nat) (h1 : E2 lo hi) (hF : fullB lo hi = true) : ∃ m r u,
    (∀ w, Calls Tryd.prog 6 #[IV lo hi] w fun z w' => z = .returned (.float .f64 m) ∧ Below w.heap.size w w') ∧
    (∀ w, Calls Tryd.prog 7 #[IV lo hi] w fun z w' => z = .returned (.float .f64 r) ∧ Below w.heap.size w w') ∧
    (∀ w, Calls Tryd.prog 8 #[IV lo hi] w fun z w' => z = .returned (.float .f64 u) ∧ Below w.heap.size w w') ∧
    (Cn m ∧ m % 9223372036854775808 < 9218868437227405312 ∧ sv (btLo lo hi) ≤ sv m ∧ sv m ≤ sv (btHi lo hi)) ∧ (Cn r ∧ 0 ≤ sv r) ∧ (Cn u ∧ 0 ≤ sv u) ∧
    ((btLo lo hi % 9223372036854775808 < 9218868437227405312 ∧ btHi lo hi % 9223372036854775808 < 9218868437227405312 ∧
        (r = 9218868437227405312 ∧ u = 9218868437227405312 ∨ r % 9223372036854775808 < 9218868437227405312 ∧ sv m - sv r ≤ sv (btLo lo hi) ∧ sv (btHi lo hi) ≤ sv m + sv r ∧ (u = 9218868437227405312 ∨ u % 9223372036854775808 < 9218868437227405312 ∧ sv (btHi lo hi) - sv (btLo lo hi) ≤ sv u))) ∨
      ((btLo lo hi = 18442240474082181120 ∨ btHi lo hi = 9218868437227405312) ∧ r = 9218868437227405312 ∧ u = 9218868437227405312)) := by
  have hn := nrm_any h1.1 h1.2
  obtain ⟨A, eA⟩ : ∃ A, btLo lo hi = A := ⟨_, rfl⟩
  obtain ⟨B, eB⟩ : ∃ B, btHi lo hi = B := ⟨_, rfl⟩
  have hnb := bt_nrm hn
  rw [eA, eB] at hn hnb
  rw [eA, eB]
  obtain ⟨hA, hB, hd⟩ := hn
  have hfull : sv A ≤ sv B ∧ sv A < PI ∧ -PI < sv B := by
    rcases hd with k | k
    · exact k
    · exfalso
      have e1 : btLo lo hi = plusOf lo := if_pos hF
      obtain ⟨n1, n2⟩ := full_nums hF
      have := plus_sv lo h1.1 n1
      rw [← e1, eA] at this
      unfold fullB at hF
      simp only [Bool.and_eq_true, beq_iff_eq] at hF
      have hl := hF.1.2
      rw [order_eq lo _ h1.1 (by decide) n1 (by decide)] at hl
      have hl := Int.compare_eq_lt.1 (Option.some.inj hl)
      have ep : sv 9218868437227405312 = PI := rfl
      omega
  obtain ⟨m, ⟨m1, m2, m3, m4⟩, hm⟩ := mid_full A B hA hB hfull
  have ep : sv 9218868437227405312 = PI := rfl
  have hp := pi_pos
  have nA : A ≠ 9218868437227405312 := by intro c; rw [c] at hfull; omega
  have nB : B ≠ 18442240474082181120 := by intro c; rw [c, pi_neg] at hfull; omega
  have eN : noneB A B = false := by
    unfold noneB
    rw [cn_eqB hA cn_pi, decide_eq_false nA]
    rfl
  have fAt := flip6_lt hA.1
  have fmt := flip6_lt m1.1
  have sA := flip6_sv hA.1
  have sm := flip6_sv m1.1
  have fm : flipOf m % 9223372036854775808 < 9218868437227405312 := by rw [(flip6_md m1.1).1]; exact m2
  have hmid := fun w => hm lo hi w eA eB
  have hmid2 := fun w => hm A B w hnb.1 hnb.2
  have km := fin_lt m2
  by_cases cA : A = 18442240474082181120
  · have ef : flipOf A = 9218868437227405312 := by rw [cA]; decide
    have s1 : ∀ w, Calls Tryd.prog 28 #[.float .f64 m, .float .f64 (flipOf A), .bool true] w fun r w' => r = .returned (.float .f64 9218868437227405312) ∧ Below w.heap.size w w' := fun w => by
      rw [ef]; exact sum_pinf2 m true w m1.1 m2
    have s3 : ∀ w, Calls Tryd.prog 28 #[.float .f64 B, .float .f64 (flipOf A), .bool true] w fun r w' => r = .returned (.float .f64 9218868437227405312) ∧ Below w.heap.size w w' := fun w => by
      rw [ef]
      by_cases cB : B = 9218868437227405312
      · rw [cB]; exact sum_pinf1 _ true w (by decide) (by decide) (by decide)
      · refine sum_pinf2 B true w hB.1 ?_
        apply Classical.byContradiction
        intro c
        rcases cn_inf hB c with k | k
        · exact cB k
        · exact nB k
    obtain ⟨v, hv, s2⟩ : ∃ v, Cn v ∧ ∀ w, Calls Tryd.prog 28 #[.float .f64 B, .float .f64 (flipOf m), .bool true] w fun r w' => r = .returned (.float .f64 v) ∧ Below w.heap.size w w' := by
      by_cases cB : B = 9218868437227405312
      · exact ⟨_, cn_pi, fun w => by rw [cB]; exact sum_pinf1 _ true w fmt (by omega) (by intro c; rw [c] at fm; exact absurd fm (by decide))⟩
      · have fB : B % 9223372036854775808 < 9218868437227405312 := by
          apply Classical.byContradiction
          intro c
          rcases cn_inf hB c with k | k
          · exact cB k
          · exact nB k
        obtain ⟨v, hv, hc⟩ := sum_fin B (flipOf m) true hB.1 fmt (fun k => hB.2.2 k.1) fB fm
        exact ⟨v, (show UpR v _ from hv).1, hc⟩
    have emx : mx 9218868437227405312 v = 9218868437227405312 := by
      unfold mx
      rw [if_neg (by have := cn_bound hv; omega)]
    refine ⟨m, 9218868437227405312, 9218868437227405312, hmid, fun w => ?_, fun w => ?_, ⟨m1, m2, m3, m4⟩, ⟨cn_pi, by omega⟩, ⟨cn_pi, by omega⟩, Or.inr ⟨Or.inl cA, rfl, rfl⟩⟩
    · have := Radius_core lo hi m _ v w (by rw [eA]; exact hA.1) m1.1 cn_pi hv (by rw [eA, eB]; exact eN) (by rw [eA, eB]; exact hmid2) (by rw [eA]; exact s1) (by rw [eB]; exact s2)
      rw [emx] at this
      exact this
    · exact Width_core lo hi _ w (by rw [eA]; exact hA.1) (by rw [eA, eB]; exact eN) (by rw [eA, eB]; exact s3)
  · have fA : A % 9223372036854775808 < 9218868437227405312 := by
      apply Classical.byContradiction
      intro c
      rcases cn_inf hA c with k | k
      · exact nA k
      · exact cA k
    have ffA : flipOf A % 9223372036854775808 < 9218868437227405312 := by rw [(flip6_md hA.1).1]; exact fA
    obtain ⟨u1, hu1, s1⟩ := sum_fin m (flipOf A) true m1.1 fAt (fun k => m1.2.2 k.1) m2 ffA
    have hu1 : UpR u1 (sv m + sv (flipOf A)) := hu1
    rw [sA] at hu1
    by_cases cB : B = 9218868437227405312
    · have s2 : ∀ w, Calls Tryd.prog 28 #[.float .f64 B, .float .f64 (flipOf m), .bool true] w fun r w' => r = .returned (.float .f64 9218868437227405312) ∧ Below w.heap.size w w' := fun w => by
        rw [cB]; exact sum_pinf1 _ true w fmt (by omega) (by intro c; rw [c] at fm; exact absurd fm (by decide))
      have s3 : ∀ w, Calls Tryd.prog 28 #[.float .f64 B, .float .f64 (flipOf A), .bool true] w fun r w' => r = .returned (.float .f64 9218868437227405312) ∧ Below w.heap.size w w' := fun w => by
        rw [cB]; exact sum_pinf1 _ true w fAt (by omega) (by intro c; rw [c] at ffA; exact absurd ffA (by decide))
      have emx : mx u1 9218868437227405312 = 9218868437227405312 := by
        unfold mx
        by_cases c : sv u1 < sv 9218868437227405312
        · rw [if_pos c]
        · rw [if_neg c]
          exact cn_inj hu1.1 cn_pi (by have := cn_bound hu1.1; omega)
      refine ⟨m, 9218868437227405312, 9218868437227405312, hmid, fun w => ?_, fun w => ?_, ⟨m1, m2, m3, m4⟩, ⟨cn_pi, by omega⟩, ⟨cn_pi, by omega⟩, Or.inr ⟨Or.inr cB, rfl, rfl⟩⟩
      · have := Radius_core lo hi m u1 _ w (by rw [eA]; exact hA.1) m1.1 hu1.1 cn_pi (by rw [eA, eB]; exact eN) (by rw [eA, eB]; exact hmid2) (by rw [eA]; exact s1) (by rw [eB]; exact s2)
        rw [emx] at this
        exact this
      · exact Width_core lo hi _ w (by rw [eA]; exact hA.1) (by rw [eA, eB]; exact eN) (by rw [eA, eB]; exact s3)
    · have fB : B % 9223372036854775808 < 9218868437227405312 := by
        apply Classical.byContradiction
        intro c
        rcases cn_inf hB c with k | k
        · exact cB k
        · exact nB k
      obtain ⟨u2, hu2, s2⟩ := sum_fin B (flipOf m) true hB.1 fmt (fun k => hB.2.2 k.1) fB fm
      obtain ⟨u, hu, s3⟩ := sum_fin B (flipOf A) true hB.1 fAt (fun k => hB.2.2 k.1) fB ffA
      have hu2 : UpR u2 (sv B + sv (flipOf m)) := hu2
      have hu : UpR u (sv B + sv (flipOf A)) := hu
      rw [sm] at hu2
      rw [sA] at hu
      obtain ⟨a1, a2, a3, a4⟩ := hu1
      obtain ⟨b1, b2, b3, b4⟩ := hu2
      obtain ⟨c1, c2, c3, c4⟩ := hu
      have fin_or : ∀ z, Cn z → z ≠ 18442240474082181120 → z = 9218868437227405312 ∨ z % 9223372036854775808 < 9218868437227405312 := fun z hz hne => by
        by_cases k : z % 9223372036854775808 < 9218868437227405312
        · exact Or.inr k
        · rcases cn_inf hz k with j | j
          · exact Or.inl j
          · exact absurd j hne
      have n1 : 0 ≤ sv u1 := by rcases a3 with k | k
                                · rw [k]; omega
                                · omega
      have n2 : 0 ≤ sv u2 := by rcases b3 with k | k
                                · rw [k]; omega
                                · omega
      have n3 : 0 ≤ sv u := by rcases c3 with k | k
                               · rw [k]; omega
                               · omega
      have hmxc := (cn_mn a1 b1).2
      have hmxs := sv_mx u1 u2
      refine ⟨m, mx u1 u2, u, hmid, fun w => Radius_core lo hi m u1 u2 w (by rw [eA]; exact hA.1) m1.1 a1 b1 (by rw [eA, eB]; exact eN) (by rw [eA, eB]; exact hmid2) (by rw [eA]; exact s1) (by rw [eB]; exact s2), fun w => Width_core lo hi _ w (by rw [eA]; exact hA.1) (by rw [eA, eB]; exact eN) (by rw [eA, eB]; exact s3), ⟨m1, m2, m3, m4⟩, ⟨hmxc, by omega⟩, ⟨c1, n3⟩, Or.inl ⟨fA, fB, ?_⟩⟩
      have hne : mx u1 u2 ≠ 18442240474082181120 := by unfold mx; split <;> assumption
      rcases fin_or _ hmxc hne with k | k
      · left
        refine ⟨k, ?_⟩
        rcases fin_or u c1 c2 with j | j
        · exact j
        · exfalso
          have ku := fin_lt j
          have hv : sv B - sv A ≤ sv u := by
            rcases c3 with i | i
            · rw [i] at j; exact absurd j (by decide)
            · omega
          have l1 := a4 u c1 j (by omega)
          have l2 := b4 u c1 j (by omega)
          rw [k] at hmxs
          omega
      · right
        have kr := fin_lt k
        have v1 : sv m - sv A ≤ sv u1 := by
          rcases a3 with i | i
          · exfalso; have e : sv u1 = PI := (congrArg sv i).trans ep; omega
          · omega
        have v2 : sv B - sv m ≤ sv u2 := by
          rcases b3 with i | i
          · exfalso; have e : sv u2 = PI := (congrArg sv i).trans ep; omega
          · omega
        refine ⟨k, by omega, by omega, ?_⟩
        rcases fin_or u c1 c2 with j | j
        · exact Or.inl j
        · right
          refine ⟨j, ?_⟩
          rcases c3 with i | i
          · rw [i] at j; exact absurd j (by decide)
          · omega
end Go.Proofs.YtilffgmekeeohaaDoor
