
/- What convert's known, grows, cut and stepsOf do. -/
import Derived.Test.YtpgcelbgmpfliaaGreatDoorV10
namespace Go.Proofs.YtpgcelbgmpfliaaGreatDoor
open Go.RowKit Go.IntWalk

set_option maxHeartbeats 400000 in
theorem known_any (mode : Int) (w : World) :
    Calls Tryz.prog 47 #[.int .i64 mode] w fun r w' => r = .returned (.bool (decide (0 ≤ mode ∧ mode ≤ 4))) ∧ w' = w := by
  go_enter Tryz.func47, Tryz.ntmps47
  go_wp2
  all_goals go_ret
  all_goals exact ⟨ret_bool (by simp; try omega), rfl⟩

set_option maxHeartbeats 400000 in
theorem grows_any (mode : Int) (neg odd : Bool) (left : Nat) (w : World) (hl : left ≤ 3) :
    Calls Tryz.prog 96 #[.int .i64 mode, .bool neg, .bool odd, .int .i64 left] w fun r w' => r = .returned (.bool (growsOf mode neg odd left)) ∧ w' = w := by
  obtain h | h | h | h : left = 0 ∨ left = 1 ∨ left = 2 ∨ left = 3 := by omega
  all_goals
    subst h
    go_enter Tryz.func96, Tryz.ntmps96
    go_wp2
    all_goals go_ret
    all_goals (refine ⟨ret_bool ?_, rfl⟩; unfold growsOf; simp_all)

theorem ret_ui {a a' c c' : Int} (h1 : a = a') (h2 : c = c') : Ending.returned (.tuple #[.int .u64 a, .int .i64 c]) = .returned (.tuple #[.int .u64 a', .int .i64 c']) := by rw [h1, h2]
theorem mulpow_cast (m k : Nat) : (m : Int) * 2 ^ k = ((m * 2 ^ k : Nat) : Int) := by rw [Int.natCast_mul, Int.natCast_pow]; rfl
theorem shl_w (m k : Nat) (h : m * 2 ^ k < 18446744073709551616) : IntKind.u64.wrap ((m : Int) * 2 ^ k) = ((m * 2 ^ k : Nat) : Int) := by
  rw [IntKind.wrap_u64, Int.natCast_mul, Int.natCast_pow]
  have e : ((2 : Nat) : Int) = 2 := rfl
  rw [e]
  have : (m : Int) * 2 ^ k = ((m * 2 ^ k : Nat) : Int) := by rw [Int.natCast_mul, Int.natCast_pow]; rfl
  rw [this]
  omega
set_option maxHeartbeats 400000 in
theorem cut_low (neg : Bool) (m k : Nat) (e : Int) (w : World) (hk : k ≤ 64) (h : m * 2 ^ k < 18446744073709551616) :
    Calls Tryz.prog 95 #[.agg #[.bool neg, .int .u64 m, .int .i64 e], .int .i64 (e - (k : Int))] w fun r w' => r = .returned (.tuple #[.int .u64 ((m * 2 ^ k : Nat) : Int), .int .i64 0]) ∧ Below w.heap.size w w' := by
  have hw : IntKind.i64.wrap (e - (k : Int) - e) = -(k : Int) := by rw [IntWalk.i64_in _ (by omega)]; omega
  have hw2 : IntKind.i64.wrap (- -(k : Int)) = (k : Int) := by rw [IntWalk.i64_in _ (by omega)]; omega
  have hs := shl_w m k h
  have hmin : min k 64 = k := Nat.min_eq_left hk
  have H := hid h
  have HK := hid hk
  clear h hk
  go_enter Tryz.func95, Tryz.ntmps95
  go_wp2
  go_ret2
  exact ⟨ret_ui (mulpow_cast m k) rfl, (Below.refl _ _).alloc (Nat.le_refl _) _⟩
set_option maxHeartbeats 400000 in
theorem cut_far (neg : Bool) (m k : Nat) (e : Int) (w : World) (hk : k ≤ 200000) (h : 64 < k) :
    Calls Tryz.prog 95 #[.agg #[.bool neg, .int .u64 m, .int .i64 e], .int .i64 (e + (k : Int))] w fun r w' => r = .returned (.tuple #[.int .u64 0, .int .i64 1]) ∧ Below w.heap.size w w' := by
  have hw : IntKind.i64.wrap (e + (k : Int) - e) = (k : Int) := by rw [IntWalk.i64_in _ (by omega)]; omega
  go_enter Tryz.func95, Tryz.ntmps95
  go_wp2
  go_ret2
  exact ⟨rfl, (Below.refl _ _).alloc (Nat.le_refl _) _⟩
theorem shr_w (m k : Nat) : (m : Int) / 2 ^ k = ((m / 2 ^ k : Nat) : Int) := by rw [Int.natCast_ediv, Int.natCast_pow]; rfl
theorem under_w (m k : Nat) (hk : k ≤ 64) : IntKind.u64.wrap ((m : Int) * 2 ^ (64 - k)) = ((m % 2 ^ k * 2 ^ (64 - k) : Nat) : Int) := by
  have e1 : (m : Int) * 2 ^ (64 - k) = ((m * 2 ^ (64 - k) : Nat) : Int) := by rw [Int.natCast_mul, Int.natCast_pow]; rfl
  have e2 : m * 2 ^ (64 - k) % 18446744073709551616 = m % 2 ^ k * 2 ^ (64 - k) := by
    have e3 : (18446744073709551616 : Nat) = 2 ^ k * 2 ^ (64 - k) := by rw [← Nat.pow_add, Nat.add_sub_cancel' hk]
    rw [e3, Nat.mul_mod_mul_right]
  rw [IntKind.wrap_u64, e1, ← e2]
  omega
theorem rest_under (m k : Nat) (h2 : k ≤ 64) (U : Nat) (hU : m % 2 ^ k * 2 ^ (64 - k) = U) : restN m k = if U = 0 then 0 else if U < 9223372036854775808 then 1 else if U = 9223372036854775808 then 2 else 3 := by
  have hp := Nat.two_pow_pos (64 - k)
  have e3 : (18446744073709551616 : Nat) = 2 ^ k * 2 ^ (64 - k) := by rw [← Nat.pow_add, Nat.add_sub_cancel' h2]
  have h0 : U = 0 ↔ m % 2 ^ k = 0 := by
    rw [← hU]
    constructor
    · intro h
      rcases Nat.mul_eq_zero.1 h with h | h
      · exact h
      · omega
    · intro h; rw [h, Nat.zero_mul]
  have hlt : U < 9223372036854775808 ↔ 2 * (m % 2 ^ k) < 2 ^ k := by
    have : U < 9223372036854775808 ↔ 2 * (m % 2 ^ k) * 2 ^ (64 - k) < 2 ^ k * 2 ^ (64 - k) := by
      rw [← e3, Nat.mul_assoc, hU]; omega
    rw [this]
    exact Nat.mul_lt_mul_right hp
  have heq : U = 9223372036854775808 ↔ 2 * (m % 2 ^ k) = 2 ^ k := by
    have : U = 9223372036854775808 ↔ 2 * (m % 2 ^ k) * 2 ^ (64 - k) = 2 ^ k * 2 ^ (64 - k) := by
      rw [← e3, Nat.mul_assoc, hU]; omega
    rw [this]
    exact ⟨fun h => Nat.eq_of_mul_eq_mul_right hp h, fun h => by rw [h]⟩
  unfold restN
  simp only [h0, hlt, heq]
set_option maxHeartbeats 400000 in
theorem cut_mid (neg : Bool) (m k j : Nat) (e : Int) (w : World) (hk1 : 1 ≤ k) (hj : k + j = 64) :
    Calls Tryz.prog 95 #[.agg #[.bool neg, .int .u64 m, .int .i64 e], .int .i64 (e + (k : Int))] w fun r w' => r = .returned (.tuple #[.int .u64 ((m / 2 ^ k : Nat) : Int), .int .i64 (restN m k : Nat)]) ∧ Below w.heap.size w w' := by
  have hk : k ≤ 64 := by omega
  have ej : 64 - k = j := by omega
  obtain ⟨U, hU⟩ : ∃ U, Hid (m % 2 ^ k * 2 ^ j = U) := ⟨_, rfl⟩
  have HR := hid (rest_under m k hk U (by rw [ej]; exact hU.out))
  have hu := under_w m k hk
  rw [ej, hU.out] at hu
  obtain ⟨V, hV⟩ : ∃ V : Int, Hid ((U : Int) = V) := ⟨_, rfl⟩
  rw [hV.out] at hu
  have hr := shr_w m k
  obtain ⟨Q, hQ⟩ : ∃ Q, Hid (m / 2 ^ k = Q) := ⟨_, rfl⟩
  rw [hQ.out] at hr ⊢
  have hw : IntKind.i64.wrap (e + (k : Int) - e) = (k : Int) := by rw [IntWalk.i64_in _ (by omega)]; omega
  have hw2 : IntKind.i64.wrap (64 - (k : Int)) = (j : Int) := by rw [IntWalk.i64_in _ (by omega)]; omega
  have hm1 : min k 64 = k := Nat.min_eq_left hk
  have hm2 : min j 64 = j := Nat.min_eq_left (by omega)
  have hi1 : (k : Int) ≤ 64 := by omega
  have hi2 : 0 < (k : Int) := by omega
  clear ej hj hk hk1
  go_enter Tryz.func95, Tryz.ntmps95
  go_wp2_with fail
  go_quiet (fail)
  go_wp2
  all_goals go_ret2
  all_goals (refine ⟨ret_ui rfl ?_, ?_⟩)
  all_goals first
    | (have hv := hV.out
       rw [HR.out]
       clear HR hV hU hu hw hw2 hr hQ
       simp only [beq_iff_eq, beq_eq_false_iff_ne, ne_eq] at *
       split <;> (try split) <;> (try split) <;> omega)
    | repeat (first | exact Below.refl _ _ | refine bl_al ?_ _ | refine bl_drewN _ ?_ | refine Below.drew ?_)

/-- cut, whatever the shift: with room for the steps in 64 bits. -/
theorem rest_le (m s : Nat) : restN m s ≤ 3 := by
  unfold restN
  split
  · omega
  · split
    · omega
    · split <;> omega
theorem cutR_le (m : Nat) (sh : Int) : cutR m sh ≤ 3 := by
  unfold cutR
  split
  · omega
  · exact rest_le _ _
theorem cut_any (neg : Bool) (m : Nat) (e u : Int) (w : World) (hm : m < 18446744073709551616) (h0 : m ≠ 0) (h1 : -100000 ≤ e) (h2 : e ≤ 100000) (h3 : -100000 ≤ u) (h4 : u ≤ 100000) (h : cutQ m (u - e) < 18446744073709551616) :
    Calls Tryz.prog 95 #[.agg #[.bool neg, .int .u64 m, .int .i64 e], .int .i64 u] w fun r w' => r = .returned (.tuple #[.int .u64 (cutQ m (u - e)), .int .i64 (cutR m (u - e))]) ∧ Below w.heap.size w w' := by
  by_cases hs : u - e ≤ 0
  · obtain ⟨k, hk⟩ := Int.eq_ofNat_of_zero_le (show 0 ≤ e - u by omega)
    have eu : u = e - (k : Int) := by omega
    have hq : cutQ m (u - e) = m * 2 ^ k := by
      unfold cutQ; rw [if_pos hs]; congr 2; omega
    have hr : cutR m (u - e) = 0 := by unfold cutR; rw [if_pos hs]
    rw [hq] at h
    rw [hq, hr, eu]
    have hk64 : k ≤ 64 := by
      apply Classical.byContradiction
      intro hc
      have a1 : 2 ^ 64 ≤ 2 ^ k := Nat.pow_le_pow_right (by decide) (by omega)
      have a2 : 1 * 2 ^ k ≤ m * 2 ^ k := Nat.mul_le_mul_right _ (by omega)
      have a3 : (2 : Nat) ^ 64 = 18446744073709551616 := by decide
      omega
    exact cut_low neg m k e w hk64 h
  · obtain ⟨k, hk⟩ := Int.eq_ofNat_of_zero_le (show 0 ≤ u - e by omega)
    have eu : u = e + (k : Int) := by omega
    have ek : (u - e).toNat = k := by omega
    have hq : cutQ m (u - e) = m / 2 ^ k := by unfold cutQ; rw [if_neg hs, ek]
    have hr : cutR m (u - e) = restN m k := by unfold cutR; rw [if_neg hs, ek]
    rw [hq, hr, eu]
    by_cases hk2 : k ≤ 64
    · exact cut_mid neg m k (64 - k) e w (by omega) (by omega)
    · have a1 : 2 ^ 65 ≤ 2 ^ k := Nat.pow_le_pow_right (by decide) (by omega)
      have a3 : (2 : Nat) ^ 65 = 36893488147419103232 := by decide
      have hml : m < 2 ^ k := by omega
      have e1 : m / 2 ^ k = 0 := Nat.div_eq_of_lt hml
      have e2 : restN m k = 1 := by unfold restN; rw [Nat.mod_eq_of_lt hml, if_neg h0, if_pos (by omega)]
      rw [e1, e2]
      exact cut_far neg m k e w (by omega) (by omega)

set_option maxHeartbeats 400000 in
theorem stepsOf_zero (neg : Bool) (m : Nat) (e u mode : Int) (w : World) (hm : m < 18446744073709551616) (h0 : m ≠ 0) (h1 : -100000 ≤ e) (h2 : e ≤ 100000) (h3 : -100000 ≤ u) (h4 : u ≤ 100000) (h : cutQ m (u - e) < 18446744073709551616) (hr : cutR m (u - e) = 0) :
    Calls Tryz.prog 50 #[.agg #[.bool neg, .int .u64 m, .int .i64 e], .int .i64 u, .int .i64 mode] w fun r w' => r = .returned (.tuple #[.int .u64 (stepQ m (u - e) mode neg), .int .i64 0]) ∧ Below w.heap.size w w' := by
  have hst : stepQ m (u - e) mode neg = cutQ m (u - e) := by unfold stepQ; rw [if_neg (fun c => c.1 hr), Nat.add_zero]
  rw [hst]
  have hc := cut_any neg m e u (w.alloc (.cells #[.bool neg, .int .u64 m, .int .i64 e] 59)) hm h0 h1 h2 h3 h4 h
  rw [hr] at hc
  obtain ⟨Q, hQ⟩ : ∃ Q, Hid (cutQ m (u - e) = Q) := ⟨_, rfl⟩
  rw [hQ.out] at hc ⊢
  clear hst hr h
  have HC := hid hc
  clear hc
  go_enter Tryz.func50, Tryz.ntmps50
  go_wp2_with fail
  refine HC.out.mono ?_
  rintro r w1 ⟨rfl, hb⟩
  go_wp2
  go_ret2
  exact ⟨rfl, bl_alloc hb⟩
theorem odd_b (Q : Nat) : ((Q : Int) % 2 == 1) = decide (Q % 2 = 1) := by
  rw [Bool.eq_iff_iff]; simp only [beq_iff_eq, decide_eq_true_eq]; omega
set_option maxHeartbeats 400000 in
theorem stepsOf_more (neg : Bool) (m : Nat) (e u mode : Int) (w : World) (hm : m < 18446744073709551616) (h0 : m ≠ 0) (h1 : -100000 ≤ e) (h2 : e ≤ 100000) (h3 : -100000 ≤ u) (h4 : u ≤ 100000) (h : cutQ m (u - e) < 9223372036854775809) (hr : cutR m (u - e) ≠ 0) :
    Calls Tryz.prog 50 #[.agg #[.bool neg, .int .u64 m, .int .i64 e], .int .i64 u, .int .i64 mode] w fun r w' => r = .returned (.tuple #[.int .u64 (stepQ m (u - e) mode neg), .int .i64 1]) ∧ Below w.heap.size w w' := by
  have hst : stepQ m (u - e) mode neg = cutQ m (u - e) + if growsOf mode neg (decide (cutQ m (u - e) % 2 = 1)) (cutR m (u - e)) = true then 1 else 0 := by
    unfold stepQ
    by_cases c : growsOf mode neg (decide (cutQ m (u - e) % 2 = 1)) (cutR m (u - e)) = true
    · rw [if_pos c, if_pos ⟨hr, c⟩]
    · rw [if_neg c, if_neg (fun d => c d.2)]
  rw [hst]
  have hc := cut_any neg m e u (w.alloc (.cells #[.bool neg, .int .u64 m, .int .i64 e] 59)) hm h0 h1 h2 h3 h4 (by omega)
  have hrl := cutR_le m (u - e)
  obtain ⟨Q, hQ⟩ : ∃ Q, Hid (cutQ m (u - e) = Q) := ⟨_, rfl⟩
  obtain ⟨R, hR⟩ : ∃ R, Hid (cutR m (u - e) = R) := ⟨_, rfl⟩
  rw [hQ.out] at h
  rw [hR.out] at hr hrl
  rw [hQ.out, hR.out] at hc ⊢
  obtain ⟨o, ho⟩ : ∃ o, Hid (decide (Q % 2 = 1) = o) := ⟨_, rfl⟩
  have hod := odd_b Q
  rw [ho.out] at hod ⊢
  obtain ⟨G, hG⟩ : ∃ G, Hid (growsOf mode neg o R = G) := ⟨_, rfl⟩
  rw [hG.out]
  obtain ⟨S, hS⟩ : ∃ S, Hid (Q + 1 = S) := ⟨_, rfl⟩
  have hq1 : IntKind.u64.wrap ((Q : Int) + 1) = (S : Int) := by have := hS.out; rw [IntKind.wrap_u64]; omega
  have hr0 : ((R : Int) == 0) = false := by simpa using hr
  have HRL := hid hrl
  have HC := hid hc
  clear hst hr h hc hrl
  go_enter Tryz.func50, Tryz.ntmps50
  go_wp2_with fail
  refine HC.out.mono ?_
  rintro r w1 ⟨rfl, hb⟩
  obtain ⟨hcl, hf⟩ := bcell hb
  have hz : w.heap.size < w1.heap.size := by have := hb.size; simp at this; omega
  have c0 : w1.cell? ⟨w.heap.size, 0, none⟩ = some (.bool neg) := by rw [hcl _ _ (by simp)]; simp [go_sem]
  have hbb : Hid (Below w.heap.size w w1) := bl_alloc hb
  clear hcl hf hb
  go_wp2_with fail
  refine (grows_any mode neg o R _ HRL.out).mono ?_
  rintro r w2 ⟨rfl, rfl⟩
  rw [hG.out]
  cases G
  · go_wp2
    go_ret2
    exact ⟨rfl, hbb.out⟩
  · go_wp2
    go_ret2
    exact ⟨ret_ui (by have := hS.out; omega) rfl, hbb.out⟩
theorem stepsOf_any (neg : Bool) (m : Nat) (e u mode : Int) (w : World) (hm : m < 18446744073709551616) (h0 : m ≠ 0) (h1 : -100000 ≤ e) (h2 : e ≤ 100000) (h3 : -100000 ≤ u) (h4 : u ≤ 100000) (h : cutQ m (u - e) < 9223372036854775809) :
    Calls Tryz.prog 50 #[.agg #[.bool neg, .int .u64 m, .int .i64 e], .int .i64 u, .int .i64 mode] w fun r w' => r = .returned (.tuple #[.int .u64 (stepQ m (u - e) mode neg), .int .i64 (if cutR m (u - e) = 0 then 0 else 1)]) ∧ Below w.heap.size w w' := by
  by_cases hr : cutR m (u - e) = 0
  · rw [if_pos hr]; exact stepsOf_zero neg m e u mode w hm h0 h1 h2 h3 h4 (by omega) hr
  · rw [if_neg hr]; exact stepsOf_more neg m e u mode w hm h0 h1 h2 h3 h4 h hr
end Go.Proofs.YtpgcelbgmpfliaaGreatDoor
