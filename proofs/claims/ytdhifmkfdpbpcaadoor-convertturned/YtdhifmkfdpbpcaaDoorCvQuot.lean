
/- What convert's quotient does. -/
import Derived.Test.YtdhifmkfdpbpcaaDoorCvPair
namespace Go.Proofs.YtdhifmkfdpbpcaaDoor
open Go.RowKit Go.IntWalk

theorem quo_u64 (U V q : Nat) (hV : V ≠ 0) (hU : U < 18446744073709551616) (hq : U / V = q) : Op.intDiv .quo .u64 (U : Int) (V : Int) = pure (.int .u64 (q : Int)) := by
  unfold Op.intDiv
  rw [if_neg (by omega)]
  have e : (U : Int).tdiv (V : Int) = (q : Int) := by rw [← hq]; exact (Int.ofNat_tdiv U V).symm
  have hql : q ≤ U := by rw [← hq]; exact Nat.div_le_self _ _
  have e2 : IntKind.u64.wrap (q : Int) = (q : Int) := by rw [IntKind.wrap_u64]; omega
  simp only [e, e2]
theorem rem_u64 (U V r : Nat) (hV : V ≠ 0) (hr : U % V = r) : Op.intDiv .rem .u64 (U : Int) (V : Int) = pure (.int .u64 (r : Int)) := by
  unfold Op.intDiv
  rw [if_neg (by omega)]
  have e : (U : Int).tmod (V : Int) = (r : Int) := by rw [← hr]; exact (Int.ofNat_tmod U V).symm
  simp only [e]
set_option maxHeartbeats 1000000 in
theorem quot_core (N N' : Bool) (M M' l j U : Nat) (E E' : Int) (w : World) (hM : M < 18446744073709551616) (hl : bitLen M = l) (hj : l + j = 64) (hM' : M' ≠ 0) (hU : M * 2 ^ j = U) (hUl : U < 18446744073709551616) (he1 : -5000 ≤ E) (he2 : E ≤ 5000) (he3 : -5000 ≤ E') (he4 : E' ≤ 5000) :
    Calls Tryd.prog 60 #[.agg #[.bool N, .int .u64 M, .int .i64 E], .agg #[.bool N', .int .u64 M', .int .i64 E']] w fun r w' => r = .returned (.agg #[.bool (N != N'), .int .u64 ((U / M' ||| (if U % M' = 0 then 0 else 1) : Nat) : Int), .int .i64 (E - (j : Int) - E')]) ∧ Below w.heap.size w w' := by
  have HL := hid (fun (w : World) => lead_any M l j w hM hl hj)
  have hmin : min j 64 = j := Nat.min_eq_left (by omega)
  have hu := shl_w M j (by rw [hU]; exact hUl)
  rw [hU] at hu
  have hj64 : (j : Int) ≤ 64 := by omega
  obtain ⟨q, hq⟩ : ∃ q, Hid (U / M' = q) := ⟨_, rfl⟩
  obtain ⟨r, hr⟩ : ∃ r, Hid (U % M' = r) := ⟨_, rfl⟩
  have HO := hid (fun (w : World) => oneOf_any r w)
  obtain ⟨o, ho⟩ : ∃ o, Hid ((if r = 0 then 0 else 1 : Nat) = o) := ⟨_, rfl⟩
  rw [hq.out, hr.out, ho.out]
  rw [ho.out] at HO
  have h1 : (U : Int).tdiv (M' : Int) = (q : Int) := by rw [← hq.out]; exact (Int.ofNat_tdiv U M').symm
  have h2 : (U : Int).tmod (M' : Int) = (r : Int) := by rw [← hr.out]; exact (Int.ofNat_tmod U M').symm
  have h5 : (U : Int) / (M' : Int) = (q : Int) := by rw [← hq.out]; exact (Int.natCast_ediv U M').symm
  have h6 : (U : Int) % (M' : Int) = (r : Int) := by rw [← hr.out]; exact (Int.natCast_emod U M').symm
  have h7 : IntKind.u64.wrap (q : Int) = (q : Int) := by
    have : q ≤ U := by rw [← hq.out]; exact Nat.div_le_self _ _
    rw [IntKind.wrap_u64]; omega
  have h8 : ¬ M' = 0 := hM'
  have hor : bits .or .u64 (q : Int) (o : Int) = ((q ||| o : Nat) : Int) := u64_or_nat q o (by rw [← hq.out]; exact Nat.lt_of_le_of_lt (Nat.div_le_self _ _) hUl) (by rw [← ho.out]; split <;> omega)
  obtain ⟨z, hz⟩ : ∃ z, Hid ((q ||| o : Nat) = z) := ⟨_, rfl⟩
  rw [hz.out] at hor ⊢
  obtain ⟨G, hG⟩ : ∃ G, Hid (E - (j : Int) - E' = G) := ⟨_, rfl⟩
  have hG1 : E - (j : Int) - E' = G := hG.out
  have hG2 : IntKind.i64.wrap (IntKind.i64.wrap (E - (j : Int)) - E') = G := by rw [IntWalk.i64_in (E - (j : Int)) (by omega), IntWalk.i64_in _ (by omega)]; exact hG1
  rw [hG.out]
  have hMU := hid hU
  clear hM hl hj hM' hU hUl
  go_enter Tryd.func60, Tryd.ntmps60
  go_wp2_with fail
  refine (HL.out _).mono ?_
  rintro e w1 ⟨rfl, rfl⟩
  go_wp2_with fail
  go_region_held3 (fun w' => (w'.cell? ⟨w.heap.size, 0, none⟩ = some (.bool N) ∧ w'.cell? ⟨w.heap.size, 1, none⟩ = some (.int .u64 M) ∧ w'.cell? ⟨w.heap.size, 2, none⟩ = some (.int .i64 E)) ∧ (w'.cell? ⟨w.heap.size + 1, 0, none⟩ = some (.bool N') ∧ w'.cell? ⟨w.heap.size + 1, 1, none⟩ = some (.int .u64 M') ∧ w'.cell? ⟨w.heap.size + 1, 2, none⟩ = some (.int .i64 E'))) (go_keep)
    (first | (go_at_call 85; refine (HO.out _).mono ?_; rintro r w' ⟨rfl, rfl⟩))
  go_wp2
  refine bodyPost_ret (v := .agg #[.bool (N != N'), .int .u64 z, .int .i64 G]) (by simp [results, Tryd.results60, go_sem]; cases N <;> cases N' <;> rfl) rfl ⟨rfl, ?_⟩
  repeat (first | exact Below.refl _ _ | refine bl_al ?_ _ | refine bl_drewN _ ?_ | refine Below.drew ?_ | refine Below.setCell ?_ (by simp <;> omega) _)
/-- The quotient's mantissa: cut off, its last digit 1 where something is left. -/
def qMant (M M' : Nat) : Nat := M * 2 ^ (64 - bitLen M) / M' ||| (if M * 2 ^ (64 - bitLen M) % M' = 0 then 0 else 1)
theorem above_lt (M : Nat) (hM : M < 18446744073709551616) : M * 2 ^ (64 - bitLen M) < 18446744073709551616 ∧ bitLen M ≤ 64 := by
  have hb := bitLen_le M 64 (by simpa using hM)
  have e : M * 2 ^ (64 - bitLen M) < 2 ^ bitLen M * 2 ^ (64 - bitLen M) := Nat.mul_lt_mul_of_pos_right (bitLen_hi M) (Nat.two_pow_pos _)
  rw [← Nat.pow_add, Nat.add_sub_cancel' hb] at e
  exact ⟨e, hb⟩
theorem qMant_ok (M M' : Nat) (h0 : M ≠ 0) (hM : M < 18446744073709551616) : qMant M M' ≠ 0 ∧ qMant M M' < 18446744073709551616 := by
  obtain ⟨hU, _⟩ := above_lt M hM
  unfold qMant
  obtain ⟨U, hUe⟩ : ∃ U, M * 2 ^ (64 - bitLen M) = U := ⟨_, rfl⟩
  have hU0 : U ≠ 0 := by rw [← hUe]; exact Nat.mul_ne_zero h0 (Nat.pos_iff_ne_zero.1 (Nat.two_pow_pos _))
  rw [hUe] at hU ⊢
  constructor
  · intro h
    have h1 : U / M' = 0 ∧ (if U % M' = 0 then 0 else 1 : Nat) = 0 := by
      have := (Nat.or_eq_zero_iff).1 h
      exact this
    have hd := Nat.div_add_mod U M'
    have h2 := h1.2
    split at h2
    · rw [h1.1, Nat.mul_zero] at hd; omega
    · omega
  · have h64 : (18446744073709551616 : Nat) = 2 ^ 64 := by decide
    rw [h64] at hU ⊢
    exact Nat.or_lt_two_pow (Nat.lt_of_le_of_lt (Nat.div_le_self _ _) hU) (by split <;> decide)
theorem quotient_any (N N' : Bool) (M M' : Nat) (E E' : Int) (w : World) (hM : M < 18446744073709551616) (hM' : M' ≠ 0) (he1 : -5000 ≤ E) (he2 : E ≤ 5000) (he3 : -5000 ≤ E') (he4 : E' ≤ 5000) :
    Calls Tryd.prog 60 #[.agg #[.bool N, .int .u64 M, .int .i64 E], .agg #[.bool N', .int .u64 M', .int .i64 E']] w fun r w' => r = .returned (.agg #[.bool (N != N'), .int .u64 (qMant M M'), .int .i64 (E - ((64 - bitLen M : Nat) : Int) - E')]) ∧ Below w.heap.size w w' := by
  obtain ⟨hU, hb⟩ := above_lt M hM
  exact quot_core N N' M M' (bitLen M) (64 - bitLen M) _ E E' w hM rfl (by omega) hM' rfl hU he1 he2 he3 he4
end Go.Proofs.YtdhifmkfdpbpcaaDoor
