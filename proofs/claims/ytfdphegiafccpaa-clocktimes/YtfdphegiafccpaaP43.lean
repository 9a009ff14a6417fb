
/- What the document's floor, plain, Check, Time and Count of layer 13 do. -/
import Derived.Test.YtfdphegiafccpaaP37
import Derived.Test.YtfdphegiafccpaaP38
import Derived.Test.YtfdphegiafccpaaP39
import Derived.Test.YtfdphegiafccpaaP42
namespace Go.Proofs.Ytfdphegiafccpaa
open Go.RowKit Go.IntWalk

set_option maxHeartbeats 2000000 in
theorem rfloor_any (a b : Int) (d : Nat) (w : World) (ha : -9223372036854775808 ≤ a ∧ a ≤ 9223372036854775807) (hb : -9223372036854775808 ≤ b ∧ b ≤ 9223372036854775807) (hd0 : 0 < d) (hd : d < 4294967296) :
    Calls Try.prog 22 #[.int .i64 a, .int .i64 b, .int .i64 (d : Int)] w fun r w' => r = .returned (.pointer (some ⟨w.heap.size, 0, none⟩)) ∧ NumAt w' w.heap.size (a * b / (d : Int)) 5 ∧ Below w.heap.size w w' := by
  have HF := hid (fresh_num w)
  have HV0 := hid (al_below w (.cells #[.bool false, .slice none 0 0] 53))
  have HS0 : Hid ((w.alloc (.cells #[.bool false, .slice none 0 0] 53)).heap.size = w.heap.size + 1) := hid (by simp)
  have H1 := hid (fun W => NNewC a W ha.1 ha.2)
  have H2 := hid (fun W => NNewC b W hb.1 hb.2)
  have H3 := hid (fun W => NNewC (d : Int) W (by omega) (by omega))
  obtain ⟨W0, hW0⟩ : ∃ V, Hid (w.alloc (.cells #[.bool false, .slice none 0 0] 53) = V) := ⟨_, rfl⟩
  rw [hW0.out] at HF HV0 HS0
  have hW0' := hW0.out
  have HD0 := hid hd0
  have HD := hid hd
  clear ha hb hd0 hd
  go_enter Try.func22, Try.ntmps22
  go_wp2_with fail
  refine (H1.out _).mono ?_
  rintro e w1 ⟨rfl, n1, b1⟩
  have HN1 := hid n1
  have HB1 := hid b1
  have HZ1 := hid (HF.out.below b1)
  have HL1 := hid n1.lt
  clear n1 b1
  go_wp2_with fail
  refine (H2.out _).mono ?_
  rintro e w2 ⟨rfl, n2, b2⟩
  have HN2 := hid n2
  have HX2 := hid (HN1.out.below b2)
  have HZ2 := hid (HZ1.out.below b2)
  have HB2 := hid (HB1.out.trans (b2.mono HB1.out.size))
  have HM := hid (NMul w.heap.size W0.heap.size w1.heap.size a b 2 2 w2 HZ2.out.zok (by have := HS0.out; omega) (by have := HS0.out; have := HL1.out; omega) HX2.out HN2.out (by omega) (by omega))
  clear n2 b2
  go_wp2_with fail
  refine HM.out.mono ?_
  rintro e w3 ⟨rfl, n3, b3⟩
  have HN3 := hid n3
  have HB3 : Hid (Below w.heap.size w w3) := hid ((HV0.out.trans (HB2.out.mono HV0.out.size)).trans (b3.below (HV0.out.trans (HB2.out.mono HV0.out.size)).size (Nat.le_refl _)))
  clear n3 b3
  go_wp2_with fail
  refine (H3.out _).mono ?_
  rintro e w4 ⟨rfl, n4, b4⟩
  have HN4 := hid (HN3.out.below b4)
  have HB4 := hid (HB3.out.trans (b4.mono HB3.out.size))
  have HDV := hid (NDivS w.heap.size w3.heap.size d 4 2 (a * b) w4 HN4.out n4 (by omega) HD0.out HD.out)
  clear n4 b4
  go_wp2_with fail
  refine HDV.out.mono ?_
  rintro e w5 ⟨rfl, n5, b5⟩
  have HN5 := hid n5
  have HB5 := hid (HB4.out.trans (b5.below HB4.out.size (Nat.le_refl _)))
  clear n5 b5
  go_wp2
  go_ret
  exact ⟨rfl, HN5.out, HB5.out⟩
set_option maxHeartbeats 2000000 in
theorem rplain_any (o n d k : Int) (D : Nat) (w : World) (ho : -9223372036854775808 ≤ o ∧ o ≤ 9223372036854775807) (hn : -9223372036854775808 ≤ n ∧ n ≤ 9223372036854775807) (hk : -9223372036854775808 ≤ k ∧ k ≤ 9223372036854775807) (hD : d = (D : Int)) (hd0 : 0 < D) (hd : D < 4294967296) :
    Calls Try.prog 20 #[.agg #[.int .i64 o, .int .i64 n, .int .i64 d], .int .i64 k] w fun r w' => ∃ p, r = .returned (.pointer (some ⟨p, 0, none⟩)) ∧ NumAt w' p (k * n / d + o) 6 ∧ Below w.heap.size w w' := by
  have HK := hid (fun W => @ckbox w W o n d)
  have HFL : Hid (∀ W, Calls Try.prog 22 #[.int .i64 k, .int .i64 n, .int .i64 d] W fun r w' => r = .returned (.pointer (some ⟨W.heap.size, 0, none⟩)) ∧ NumAt w' W.heap.size (k * n / d) 5 ∧ Below W.heap.size W w') := fun W => by
    rw [hD]
    exact rfloor_any k n D W hk hn hd0 hd
  have H1 := hid (fun W => NNewC o W ho.1 ho.2)
  have HAD := hid (fun (z y : Nat) (a b : Int) (b1 b2 : Nat) (W : World) (hz : NumAt W z a b1) (hy : NumAt W y b b2) (h1 : b1 ≤ 900000) (h2 : b2 ≤ 900000) => NAddA z z y a b b1 b2 W hz.zok hz hy h1 h2)
  obtain ⟨W0, hW0⟩ : ∃ V, Hid (w.alloc (CBox o n d) = V) := ⟨_, rfl⟩
  rw [hW0.out] at HK
  obtain ⟨⟨c0, c1, c2⟩, _⟩ := HK.out W0 (Below.refl _ _)
  have HSZ : Hid (w.heap.size < W0.heap.size) := hid (World.block_lt_of_cell? W0 _ c0)
  unfold CBox at hW0
  have hW0' := hW0.out
  clear hn hk hD hd0 hd ho
  go_enter Try.func20, Try.ntmps20
  go_wp2_with fail
  refine (HFL.out _).mono ?_
  rintro e w1 ⟨rfl, n1, b1⟩
  have HN1 := hid n1
  have HB1 := hid b1
  obtain ⟨⟨c0, c1, c2⟩, _⟩ := HK.out w1 b1
  clear n1 b1
  go_wp2_with fail
  refine (H1.out _).mono ?_
  rintro e w2 ⟨rfl, n2, b2⟩
  have HN2 := hid (HN1.out.below b2)
  have HB2 := hid (HB1.out.trans (b2.mono HB1.out.size))
  have HA2 := hid (HAD.out W0.heap.size w1.heap.size (k * n / d) o 5 2 w2 HN2.out n2 (by omega) (by omega))
  clear n2 b2
  go_wp2_with fail
  refine HA2.out.mono ?_
  rintro e w3 ⟨rfl, n3, b3⟩
  have HN3 := hid n3
  have HB3 := hid ((HK.out _ HB2.out).2.trans (b3.below (HK.out _ HB2.out).2.size (Nat.le_of_lt HSZ.out)))
  clear n3 b3
  go_wp2
  go_ret
  exact ⟨_, rfl, HN3.out, HB3.out⟩
set_option maxHeartbeats 2000000 in
theorem rCheck_any (o n d : Int) (w : World) :
    Calls Try.prog 12 #[.agg #[.int .i64 o, .int .i64 n, .int .i64 d]] w fun r w' => r = .returned (.int .i64 (ckE o n d)) ∧ Below w.heap.size w w' := by
  have HK := hid (fun W => @ckbox w W o n d)
  obtain ⟨W0, hW0⟩ : ∃ V, Hid (w.alloc (CBox o n d) = V) := ⟨_, rfl⟩
  rw [hW0.out] at HK
  obtain ⟨⟨c0, c1, c2⟩, hb⟩ := HK.out W0 (Below.refl _ _)
  have HB := hid hb
  unfold CBox at hW0
  have hW0' := hW0.out
  have HE : Hid (((-1125899906842624 ≤ o ∧ o ≤ 1125899906842624) ∧ (1 ≤ n ∧ n ≤ 1000000000) ∧ (1 ≤ d ∧ d ≤ 1000000000)) → ckE o n d = 0) := hid (fun h => by unfold ckE ckB; rw [if_pos (decide_eq_true h)])
  have HE2 : Hid (¬ ((-1125899906842624 ≤ o ∧ o ≤ 1125899906842624) ∧ (1 ≤ n ∧ n ≤ 1000000000) ∧ (1 ≤ d ∧ d ≤ 1000000000)) → ckE o n d = 130) := hid (fun h => by unfold ckE ckB; rw [if_neg (by simpa using h)])
  generalize ckE o n d = E at *
  clear hb
  go_enter Try.func12, Try.ntmps12
  go_wp2
  all_goals go_ret
  all_goals refine ⟨ret_int ?_, HB.out⟩
  all_goals first
    | (exact (HE2.out (by omega)).symm)
    | (exact (HE.out (by omega)).symm)
    | (trace_state; fail)
end Go.Proofs.Ytfdphegiafccpaa
