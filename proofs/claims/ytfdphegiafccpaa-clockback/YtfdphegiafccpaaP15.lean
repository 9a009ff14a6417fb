
/- The law ClockRises. -/
import Derived.Test.YtfdphegiafccpaaP14
namespace Go.Proofs.Ytfdphegiafccpaa
open Go.RowKit Go.IntWalk

theorem ret_tt {x : Bool} (h : x = true) : Ending.returned (.bool x) = Ending.returned (.bool true) := by rw [h]
theorem tm_rises (o n d a b : Int) (ha : tmE o n d a = 0) (hb : tmE o n d b = 0) (hab : a ≤ b) : tmV o n d a ≤ tmV o n d b ∧ (a = b ∨ n < d ∨ tmV o n d a < tmV o n d b) := by
  obtain ⟨k, _⟩ := (tmE_zero _ _ _ _).1 ha
  obtain ⟨_, ⟨k1, k2⟩, k3, k4⟩ := ckB_yes k
  unfold tmV
  rw [if_pos ha, if_pos hb]
  have h1 : a * n ≤ b * n := Int.mul_le_mul_of_nonneg_right hab (by omega)
  have h2 := Int.ediv_le_ediv (show 0 < d by omega) h1
  refine ⟨by omega, ?_⟩
  by_cases he : a = b
  · exact .inl he
  · by_cases hn : n < d
    · exact .inr (.inl hn)
    · refine .inr (.inr ?_)
      have h3 : (a + 1) * n ≤ b * n := Int.mul_le_mul_of_nonneg_right (by omega) (by omega)
      have h4 : a * n + 1 * d ≤ b * n := by rw [Int.add_mul, Int.one_mul] at h3; omega
      have h5 := Int.ediv_le_ediv (show 0 < d by omega) h4
      rw [Int.add_mul_ediv_right _ _ (by omega)] at h5
      omega
set_option maxHeartbeats 4000000 in
theorem rises_walk (o n d a b : Int) (w : World) (_b1 : -9223372036854775808 ≤ o ∧ o ≤ 9223372036854775807) (_b2 : -9223372036854775808 ≤ n ∧ n ≤ 9223372036854775807) (_b3 : -9223372036854775808 ≤ d ∧ d ≤ 9223372036854775807) (ha : -9223372036854775808 ≤ a ∧ a ≤ 9223372036854775807) (hb : -9223372036854775808 ≤ b ∧ b ≤ 9223372036854775807) :
    Calls Try.prog 5 #[.agg #[.int .i64 o, .int .i64 n, .int .i64 d], .int .i64 a, .int .i64 b] w fun r w' => r = .returned (.bool true) ∧ Below w.heap.size w w' := by
  have HK := hid (fun W => @ckbox w W o n d)
  have HA := hid (fun W => awake13_any W)
  have HT1 := hid (fun W => Time_any o n d a W ha.1 ha.2)
  have HT2 := hid (fun W => Time_any o n d b W hb.1 hb.2)
  have HR1 := hid (fun h1 h2 h3 => tm_rises o n d a b h1 h2 h3)
  have HR2 := hid (fun h1 h2 h3 => tm_rises o n d b a h1 h2 h3)
  generalize tmV o n d a = t at *
  generalize tmV o n d b = u at *
  generalize tmE o n d a = e at *
  generalize tmE o n d b = f at *
  obtain ⟨W0, hW0⟩ : ∃ V, Hid (w.alloc (CBox o n d) = V) := ⟨_, rfl⟩
  rw [hW0.out] at HK
  obtain ⟨⟨c0, c1, c2⟩, _⟩ := HK.out W0 (Below.refl _ _)
  unfold CBox at hW0
  have hW0' := hW0.out
  clear _b1 _b2 _b3 ha hb
  by_cases he : e = 0
  · by_cases hf : f = 0
    · subst he hf
      by_cases hab : b < a
      · obtain ⟨r1, r2⟩ := HR2.out rfl rfl (by omega)
        have HR3 := hid r2
        clear HR1 HR2 r2
        go_enter Try.func5, Try.ntmps5
        go_wp2_with fail
        refine (HT1.out _).mono ?_
        rintro e w1 ⟨rfl, hb⟩
        have HB := hid hb
        obtain ⟨⟨c0, c1, c2⟩, _⟩ := HK.out w1 hb
        clear hb
        go_wp2_with fail
        refine (HT2.out _).mono ?_
        rintro e w2 ⟨rfl, hb⟩
        have HB2 := hid (HB.out.trans (hb.mono HB.out.size))
        obtain ⟨⟨c0, c1, c2⟩, _⟩ := HK.out w2 HB2.out
        clear hb
        go_wp2_with fail
        all_goals first
          | (refine (HA.out _).mono ?_; rintro e w3 ⟨rfl, hb⟩; have HB3 := hid (HB2.out.trans (hb.mono HB2.out.size)); clear hb; go_wp2; go_ret; refine ⟨?_, (HK.out _ HB3.out).2⟩; first | rfl | (refine ret_tt ?_; have := HR3.out; simp only [Bool.or_eq_true, beq_iff_eq, decide_eq_true_eq]; omega))
          | (exfalso; have := HR3.out; omega)
          | fail
      · obtain ⟨r1, r2⟩ := HR1.out rfl rfl (by omega)
        have HR3 := hid r2
        clear HR1 HR2 r2
        go_enter Try.func5, Try.ntmps5
        go_wp2_with fail
        refine (HT1.out _).mono ?_
        rintro e w1 ⟨rfl, hb⟩
        have HB := hid hb
        obtain ⟨⟨c0, c1, c2⟩, _⟩ := HK.out w1 hb
        clear hb
        go_wp2_with fail
        refine (HT2.out _).mono ?_
        rintro e w2 ⟨rfl, hb⟩
        have HB2 := hid (HB.out.trans (hb.mono HB.out.size))
        obtain ⟨⟨c0, c1, c2⟩, _⟩ := HK.out w2 HB2.out
        clear hb
        go_wp2_with fail
        all_goals first
          | (refine (HA.out _).mono ?_; rintro e w3 ⟨rfl, hb⟩; have HB3 := hid (HB2.out.trans (hb.mono HB2.out.size)); clear hb; go_wp2; go_ret; refine ⟨?_, (HK.out _ HB3.out).2⟩; first | rfl | (refine ret_tt ?_; have := HR3.out; simp only [Bool.or_eq_true, beq_iff_eq, decide_eq_true_eq]; omega))
          | (exfalso; have := HR3.out; omega)
          | fail
    · subst he
      have HR3 : Hid True := trivial
      clear HR1 HR2
      go_enter Try.func5, Try.ntmps5
      go_wp2_with fail
      refine (HT1.out _).mono ?_
      rintro e w1 ⟨rfl, hb⟩
      have HB := hid hb
      obtain ⟨⟨c0, c1, c2⟩, _⟩ := HK.out w1 hb
      clear hb
      go_wp2_with fail
      refine (HT2.out _).mono ?_
      rintro e w2 ⟨rfl, hb⟩
      have HB2 := hid (HB.out.trans (hb.mono HB.out.size))
      obtain ⟨⟨c0, c1, c2⟩, _⟩ := HK.out w2 HB2.out
      clear hb
      go_wp2_with fail
      all_goals first
        | (refine (HA.out _).mono ?_; rintro e w3 ⟨rfl, hb⟩; have HB3 := hid (HB2.out.trans (hb.mono HB2.out.size)); clear hb; go_wp2; go_ret; refine ⟨?_, (HK.out _ HB3.out).2⟩; first | rfl | (refine ret_tt ?_; have := HR3.out; simp only [Bool.or_eq_true, beq_iff_eq, decide_eq_true_eq]; omega))
        | (exfalso; have := HR3.out; omega)
        | fail
  · have HR3 : Hid True := trivial
    clear HR1 HR2
    go_enter Try.func5, Try.ntmps5
    go_wp2_with fail
    refine (HT1.out _).mono ?_
    rintro e w1 ⟨rfl, hb⟩
    have HB := hid hb
    obtain ⟨⟨c0, c1, c2⟩, _⟩ := HK.out w1 hb
    clear hb
    go_wp2_with fail
    refine (HT2.out _).mono ?_
    rintro e w2 ⟨rfl, hb⟩
    have HB2 := hid (HB.out.trans (hb.mono HB.out.size))
    obtain ⟨⟨c0, c1, c2⟩, _⟩ := HK.out w2 HB2.out
    clear hb
    go_wp2_with fail
    all_goals first
      | (refine (HA.out _).mono ?_; rintro e w3 ⟨rfl, hb⟩; have HB3 := hid (HB2.out.trans (hb.mono HB2.out.size)); clear hb; go_wp2; go_ret; refine ⟨?_, (HK.out _ HB3.out).2⟩; first | rfl | (refine ret_tt ?_; have := HR3.out; simp only [Bool.or_eq_true, beq_iff_eq, decide_eq_true_eq]; omega))
      | (exfalso; have := HR3.out; omega)
      | fail
end Go.Proofs.Ytfdphegiafccpaa
