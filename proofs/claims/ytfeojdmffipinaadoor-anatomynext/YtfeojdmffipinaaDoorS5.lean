
/- What wordOf, ulp and Ulp32 do with singles that are powers of two. -/
import Derived.Test.YtfeojdmffipinaaDoorS4
namespace Go.Proofs.YtfeojdmffipinaaDoor
open Go.RowKit Go.IntWalk

set_option maxHeartbeats 400000 in
theorem lowest32_any (e : Int) (w : World) (h1 : -2000 ≤ e) (h2 : e ≤ 3000) :
    Calls Tryd.prog 111 #[.agg #[.int .i64 23, .int .u32 8388607, .int .u32 255, .int .u32 2147483648, .int .u32 2139095040, .int .u32 2143289344, .int .i64 150], .int .i64 e] w fun r w' => r = .returned (.int .i64 (max e 1 - 150)) ∧ w' = w.alloc (.cells #[.int .i64 23, .int .u32 8388607, .int .u32 255, .int .u32 2147483648, .int .u32 2139095040, .int .u32 2143289344, .int .i64 150] 94) := by
  go_enter Tryd.func111, Tryd.ntmps111
  go_wp2
  all_goals go_ret
  all_goals exact ⟨ret_int (by omega), rfl⟩
theorem lowest32_0 (w : World) :
    Calls Tryd.prog 111 #[.agg #[.int .i64 23, .int .u32 8388607, .int .u32 255, .int .u32 2147483648, .int .u32 2139095040, .int .u32 2143289344, .int .i64 150], .int .i64 0] w fun r w' => r = .returned (.int .i64 (-149)) ∧ w' = w.alloc (.cells #[.int .i64 23, .int .u32 8388607, .int .u32 255, .int .u32 2147483648, .int .u32 2139095040, .int .u32 2143289344, .int .i64 150] 94) :=
  lowest32_any 0 w (by omega) (by omega)
theorem lowest32_0b (w : World) :
    Calls Tryd.prog 111 #[.agg #[.int .i64 23, .int .u32 8388607, .int .u32 255, .int .u32 2147483648, .int .u32 2139095040, .int .u32 2143289344, .int .i64 150], .int .i64 0] w fun r w' => r = .returned (.int .i64 (-149)) ∧ Below w.heap.size w w' :=
  (lowest32_0 w).mono fun _ _ h => ⟨h.1, by rw [h.2]; exact (Below.refl _ _).alloc (Nat.le_refl _) _⟩
theorem lowest32_k (e k : Nat) (w : World) (he : e ≤ 255) (hk : max e 1 = k + 1) :
    Calls Tryd.prog 111 #[.agg #[.int .i64 23, .int .u32 8388607, .int .u32 255, .int .u32 2147483648, .int .u32 2139095040, .int .u32 2143289344, .int .i64 150], .int .i64 e] w fun r w' => r = .returned (.int .i64 ((k : Int) - 149)) ∧ w' = w.alloc (.cells #[.int .i64 23, .int .u32 8388607, .int .u32 255, .int .u32 2147483648, .int .u32 2139095040, .int .u32 2143289344, .int .i64 150] 94) :=
  (lowest32_any e w (by omega) (by omega)).mono fun _ _ h => ⟨by rw [h.1]; exact ret_int (by omega), h.2⟩

theorem tz_1 (w : World) (hT : Tab w) : Calls Tryd.prog 106 #[.int .u64 1] w fun r w' => r = .returned (.int .i64 0) ∧ w' = w := by
  refine (tz_any 1 w (by decide) hT).mono ?_
  rintro r w' ⟨rfl, rfl⟩
  exact ⟨by rw [tz_one]; rfl, rfl⟩
theorem len_1 (w : World) : Calls Tryd.prog 108 #[.int .u64 1] w fun r w' => r = .returned (.int .i64 1) ∧ w' = w := by
  refine (len_any 1 w (by decide)).mono ?_
  rintro r w' ⟨rfl, rfl⟩
  exact ⟨by rfl, rfl⟩

set_option maxHeartbeats 400000 in
theorem word32_norm (X : Nat) (w : World) (hX1 : 0 < X) (hX2 : X < 255) (hT : Tab w) (hs : 1 < w.heap.size) :
    Calls Tryd.prog 110 #[.agg #[.int .i64 23, .int .u32 8388607, .int .u32 255, .int .u32 2147483648, .int .u32 2139095040, .int .u32 2143289344, .int .i64 150], .agg #[.bool false, .int .u64 1, .int .i64 ((X : Int) - 127)]] w fun r w' => r = .returned (.tuple #[.int .u32 (packN32 X 0), .int .i64 0]) ∧ Below w.heap.size w w' := by
  obtain ⟨e, he⟩ : ∃ e : Int, Hid ((X : Int) - 127 = e) := ⟨_, rfl⟩
  rw [he.out]
  have he1 : -126 ≤ e := by have := he.out; omega
  have he2 : e ≤ 127 := by have := he.out; omega
  have HX : Hid (e + 150 - 23 = (X : Int)) := by show e + 150 - 23 = (X : Int); have := he.out; omega
  have hfr : bits .and .u32 8388608 8388607 = 0 := by decide
  have HP : Hid (bits .or .u32 (IntKind.u32.wrap (IntKind.u32.wrap (X : Int) * 8388608)) 0 = (packN32 X 0 : Int)) := pack_w32 X 0 (by omega) (by omega)
  have HPL : Hid (packN32 X 0 < 2147483648) := pack_lt32 X 0 (by omega) (by omega)
  go_enter Tryd.func110, Tryd.ntmps110
  go_wp2_with fail
  refine (tz_1 _ (hT.below hs (((Below.refl _ _).alloc (Nat.le_refl _) _).alloc (by simp) _))).mono ?_
  rintro r w1 ⟨rfl, rfl⟩
  go_wp2_with fail
  go_quiet (fail)
  go_wp2_with fail
  refine (len_1 _).mono ?_
  rintro r w2 ⟨rfl, rfl⟩
  have hX := HX.out
  go_wp2_with fail
  refine (lowest32_0b _).mono ?_
  rintro r w3 ⟨rfl, hb⟩
  obtain ⟨hc, hf⟩ := bcell hb
  have hcells : (w3.cell? ⟨w.heap.size, 0, none⟩ = some (.int .i64 23) ∧ w3.cell? ⟨w.heap.size, 1, none⟩ = some (.int .u32 8388607) ∧ w3.cell? ⟨w.heap.size, 2, none⟩ = some (.int .u32 255) ∧ w3.cell? ⟨w.heap.size, 3, none⟩ = some (.int .u32 2147483648) ∧ w3.cell? ⟨w.heap.size, 4, none⟩ = some (.int .u32 2139095040) ∧ w3.cell? ⟨w.heap.size, 5, none⟩ = some (.int .u32 2143289344) ∧ w3.cell? ⟨w.heap.size, 6, none⟩ = some (.int .i64 150)) ∧ (w3.cell? ⟨w.heap.size + 1, 0, none⟩ = some (.bool false) ∧ w3.cell? ⟨w.heap.size + 1, 1, none⟩ = some (.int .u64 1) ∧ w3.cell? ⟨w.heap.size + 1, 2, none⟩ = some (.int .i64 e)) := by
    refine ⟨⟨?_, ?_, ?_, ?_, ?_, ?_, ?_⟩, ?_, ?_, ?_⟩ <;> (rw [hc _ _ (by simp <;> omega)]; simp [go_sem])
  have hz : w.heap.size + 1 < w3.heap.size := by have := hb.size; simp at this; omega
  have hbb : Hid (Below w.heap.size w w3) := by
    refine Below.trans ?_ (hb.mono ?_)
    · repeat (first | exact Below.refl _ _ | refine bl_al ?_ _ | refine bl_drewN _ ?_)
    · simp; omega
  clear hc hf hb
  obtain ⟨⟨q0, q1, q2, q3, q4, q5, q6⟩, p0, p1, p2⟩ := hcells
  go_wp2_with fail
  go_quiet (fail)
  go_wp2_with fail
  go_region_held3 (fun w' => (w'.cell? ⟨w.heap.size, 0, none⟩ = some (.int .i64 23) ∧ w'.cell? ⟨w.heap.size, 1, none⟩ = some (.int .u32 8388607) ∧ w'.cell? ⟨w.heap.size, 2, none⟩ = some (.int .u32 255) ∧ w'.cell? ⟨w.heap.size, 3, none⟩ = some (.int .u32 2147483648) ∧ w'.cell? ⟨w.heap.size, 4, none⟩ = some (.int .u32 2139095040) ∧ w'.cell? ⟨w.heap.size, 5, none⟩ = some (.int .u32 2143289344) ∧ w'.cell? ⟨w.heap.size, 6, none⟩ = some (.int .i64 150)) ∧ (w'.cell? ⟨w.heap.size + 1, 0, none⟩ = some (.bool false) ∧ w'.cell? ⟨w.heap.size + 1, 1, none⟩ = some (.int .u64 1) ∧ w'.cell? ⟨w.heap.size + 1, 2, none⟩ = some (.int .i64 e))) (go_keep)
    (first | (go_at_call 109; rw [HP.out]; refine (signed_any32 false (packN32 X 0) _ HPL.out).mono ?_; rintro r w' ⟨rfl, rfl⟩))
  go_wp2
  go_ret2
  refine ⟨ret_ii (by rw [signN_false32]) rfl, ?_⟩
  repeat (first | exact hbb.out | refine bl_al ?_ _ | refine bl_drewN _ ?_ | refine Below.drew ?_)

theorem wrap_one32 (P : Nat) (h : P < 4294967296) : IntKind.u32.wrap (IntKind.u32.wrap 1 * (P : Int)) = (P : Int) := by
  rw [IntKind.wrap_u32', IntKind.wrap_u32']; omega
set_option maxHeartbeats 400000 in
theorem word32_sub (k : Nat) (w : World) (hk : k ≤ 22) (hT : Tab w) (hs : 1 < w.heap.size) :
    Calls Tryd.prog 110 #[.agg #[.int .i64 23, .int .u32 8388607, .int .u32 255, .int .u32 2147483648, .int .u32 2139095040, .int .u32 2143289344, .int .i64 150], .agg #[.bool false, .int .u64 1, .int .i64 ((k : Int) - 149)]] w fun r w' => r = .returned (.tuple #[.int .u32 ((2 ^ k : Nat) : Int), .int .i64 0]) ∧ Below w.heap.size w w' := by
  obtain ⟨e, he⟩ : ∃ e : Int, Hid ((k : Int) - 149 = e) := ⟨_, rfl⟩
  rw [he.out]
  have he1 : -149 ≤ e := by have := he.out; omega
  have he2 : e ≤ -127 := by have := he.out; omega
  have hlt : 2 ^ k < 8388608 := by
    have h1 : (2 : Nat) ^ k ≤ 2 ^ 22 := Nat.pow_le_pow_right (by omega) hk
    have h2 : (2 : Nat) ^ 22 = 4194304 := by decide
    omega
  have hw1 : IntKind.i64.wrap (e - -149) = (k : Int) := by have := he.out; rw [IntWalk.i64_in _ (by omega)]; omega
  have hw2 : IntKind.i64.wrap (e + 149) = (k : Int) := by have := he.out; rw [IntWalk.i64_in _ (by omega)]; omega
  have HP : Hid (IntKind.u32.wrap (IntKind.u32.wrap 1 * 2 ^ k) = ((2 ^ k : Nat) : Int)) := by
    have e1 : (2 : Int) ^ k = ((2 ^ k : Nat) : Int) := by rw [Int.natCast_pow]; rfl
    show IntKind.u32.wrap (IntKind.u32.wrap 1 * 2 ^ k) = _
    rw [e1]
    exact wrap_one32 _ (Nat.lt_trans hlt (by decide))
  have HPL : Hid (2 ^ k < 2147483648) := Nat.lt_trans hlt (by decide)
  clear hlt
  go_enter Tryd.func110, Tryd.ntmps110
  go_wp2_with fail
  refine (tz_1 _ (hT.below hs (((Below.refl _ _).alloc (Nat.le_refl _) _).alloc (by simp) _))).mono ?_
  rintro r w1 ⟨rfl, rfl⟩
  go_wp2_with fail
  go_quiet (fail)
  go_wp2_with fail
  refine (len_1 _).mono ?_
  rintro r w2 ⟨rfl, rfl⟩
  go_wp2_with fail
  refine (lowest32_0b _).mono ?_
  rintro r w3 ⟨rfl, hb⟩
  obtain ⟨hc, hf⟩ := bcell hb
  have hcells : (w3.cell? ⟨w.heap.size, 0, none⟩ = some (.int .i64 23) ∧ w3.cell? ⟨w.heap.size, 1, none⟩ = some (.int .u32 8388607) ∧ w3.cell? ⟨w.heap.size, 2, none⟩ = some (.int .u32 255) ∧ w3.cell? ⟨w.heap.size, 3, none⟩ = some (.int .u32 2147483648) ∧ w3.cell? ⟨w.heap.size, 4, none⟩ = some (.int .u32 2139095040) ∧ w3.cell? ⟨w.heap.size, 5, none⟩ = some (.int .u32 2143289344) ∧ w3.cell? ⟨w.heap.size, 6, none⟩ = some (.int .i64 150)) ∧ (w3.cell? ⟨w.heap.size + 1, 0, none⟩ = some (.bool false) ∧ w3.cell? ⟨w.heap.size + 1, 1, none⟩ = some (.int .u64 1) ∧ w3.cell? ⟨w.heap.size + 1, 2, none⟩ = some (.int .i64 e)) := by
    refine ⟨⟨?_, ?_, ?_, ?_, ?_, ?_, ?_⟩, ?_, ?_, ?_⟩ <;> (rw [hc _ _ (by simp <;> omega)]; simp [go_sem])
  have hz : w.heap.size + 1 < w3.heap.size := by have := hb.size; simp at this; omega
  have hbb : Hid (Below w.heap.size w w3) := by
    refine Below.trans ?_ (hb.mono ?_)
    · repeat (first | exact Below.refl _ _ | refine bl_al ?_ _ | refine bl_drewN _ ?_)
    · simp; omega
  clear hc hf hb
  obtain ⟨⟨q0, q1, q2, q3, q4, q5, q6⟩, p0, p1, p2⟩ := hcells
  go_wp2_with fail
  go_region_held3 (fun w' => (w'.cell? ⟨w.heap.size, 0, none⟩ = some (.int .i64 23) ∧ w'.cell? ⟨w.heap.size, 1, none⟩ = some (.int .u32 8388607) ∧ w'.cell? ⟨w.heap.size, 2, none⟩ = some (.int .u32 255) ∧ w'.cell? ⟨w.heap.size, 3, none⟩ = some (.int .u32 2147483648) ∧ w'.cell? ⟨w.heap.size, 4, none⟩ = some (.int .u32 2139095040) ∧ w'.cell? ⟨w.heap.size, 5, none⟩ = some (.int .u32 2143289344) ∧ w'.cell? ⟨w.heap.size, 6, none⟩ = some (.int .i64 150)) ∧ (w'.cell? ⟨w.heap.size + 1, 0, none⟩ = some (.bool false) ∧ w'.cell? ⟨w.heap.size + 1, 1, none⟩ = some (.int .u64 1) ∧ w'.cell? ⟨w.heap.size + 1, 2, none⟩ = some (.int .i64 e))) (go_keep)
    (first | (go_at_call 111; refine (lowest32_0 _).mono ?_; rintro r w' ⟨rfl, rfl⟩) | (go_at_call 109; rw [HP.out]; refine (signed_any32 false (2 ^ k) _ HPL.out).mono ?_; rintro r w' ⟨rfl, rfl⟩))
  go_wp2
  go_ret2
  refine ⟨ret_ii (by rw [signN_false32]) rfl, ?_⟩
  repeat (first | exact hbb.out | refine bl_al ?_ _ | refine bl_drewN _ ?_ | refine Below.drew ?_)

theorem word_one32 (k : Nat) (w : World) (hk : k ≤ 253) (hT : Tab w) (hs : 1 < w.heap.size) :
    Calls Tryd.prog 110 #[.agg #[.int .i64 23, .int .u32 8388607, .int .u32 255, .int .u32 2147483648, .int .u32 2139095040, .int .u32 2143289344, .int .i64 150], .agg #[.bool false, .int .u64 1, .int .i64 ((k : Int) - 149)]] w fun r w' => r = .returned (.tuple #[.int .u32 (powN32 k), .int .i64 0]) ∧ Below w.heap.size w w' := by
  unfold powN32
  by_cases h : k ≤ 22
  · rw [if_pos h]; exact word32_sub k w h hT hs
  · rw [if_neg h]
    have e : (k : Int) - 149 = ((k - 22 : Nat) : Int) - 127 := by omega
    rw [e]
    refine (word32_norm (k - 22) w (by omega) (by omega) hT hs).mono ?_
    rintro r w' ⟨rfl, hb⟩
    exact ⟨ret_ii (by unfold packN32; rw [Nat.add_zero]) rfl, hb⟩
set_option maxHeartbeats 400000 in
theorem ulp_fin32 (x k : Nat) (w : World) (hx : x < 4294967296) (he : expOf32 x < 255) (hk : max (expOf32 x) 1 = k + 1) (hT : Tab w) (hs : 1 < w.heap.size) :
    Calls Tryd.prog 93 #[.agg #[.int .i64 23, .int .u32 8388607, .int .u32 255, .int .u32 2147483648, .int .u32 2139095040, .int .u32 2143289344, .int .i64 150], .int .u32 x] w fun r w' => r = .returned (.int .u32 (powN32 k)) ∧ Below w.heap.size w w' := by
  have HK : Hid (max (expOf32 x) 1 = k + 1) := hk
  have HE : Hid (expOf32 x < 255) := he
  have hne : ((expOf32 x : Int) == 255) = false := by simp; omega
  have hk2 : k ≤ 253 := by omega
  clear hk he
  go_enter Tryd.func93, Tryd.ntmps93
  go_wp2_with fail
  refine (split64_any32 x _ hx).mono ?_
  rintro r w1 ⟨rfl, hb⟩
  obtain ⟨hc, hf⟩ := bcell hb
  have hcells : (w1.cell? ⟨w.heap.size, 0, none⟩ = some (.int .i64 23) ∧ w1.cell? ⟨w.heap.size, 1, none⟩ = some (.int .u32 8388607) ∧ w1.cell? ⟨w.heap.size, 2, none⟩ = some (.int .u32 255) ∧ w1.cell? ⟨w.heap.size, 3, none⟩ = some (.int .u32 2147483648) ∧ w1.cell? ⟨w.heap.size, 4, none⟩ = some (.int .u32 2139095040) ∧ w1.cell? ⟨w.heap.size, 5, none⟩ = some (.int .u32 2143289344) ∧ w1.cell? ⟨w.heap.size, 6, none⟩ = some (.int .i64 150)) := by
    refine ⟨?_, ?_, ?_, ?_, ?_, ?_, ?_⟩ <;> (rw [hc _ _ (by simp)]; simp [go_sem])
  have hT1 : Hid (Tab w1) := hT.below hs (bl_alloc hb)
  have hz : w.heap.size < w1.heap.size := by have := hb.size; simp at this; omega
  have hbb : Hid (Below w.heap.size w w1) := bl_alloc hb
  clear hc hf hb
  obtain ⟨q0, q1, q2, q3, q4, q5, q6⟩ := hcells
  go_wp2_with fail
  go_region_held3 (fun w' => (w'.cell? ⟨w.heap.size, 0, none⟩ = some (.int .i64 23) ∧ w'.cell? ⟨w.heap.size, 1, none⟩ = some (.int .u32 8388607) ∧ w'.cell? ⟨w.heap.size, 2, none⟩ = some (.int .u32 255) ∧ w'.cell? ⟨w.heap.size, 3, none⟩ = some (.int .u32 2147483648) ∧ w'.cell? ⟨w.heap.size, 4, none⟩ = some (.int .u32 2139095040) ∧ w'.cell? ⟨w.heap.size, 5, none⟩ = some (.int .u32 2143289344) ∧ w'.cell? ⟨w.heap.size, 6, none⟩ = some (.int .i64 150))) (go_keep)
    (first | (go_at_call 111; refine (lowest32_k (expOf32 x) k _ ?_ HK.out).mono ?_; (have := HE.out; omega); rintro r w' ⟨rfl, rfl⟩) | (go_at_call 110; refine (word_one32 k _ hk2 ?_ ?_).mono ?_; (exact hT1.out.below (by omega) ((Below.refl _ _).alloc (Nat.le_refl _) _).drew); (simp; omega); rintro r w' ⟨rfl, hb⟩; obtain ⟨hc, hf⟩ := bcell hb; have hS : (w'.cell? ⟨w.heap.size, 0, none⟩ = some (.int .i64 23) ∧ w'.cell? ⟨w.heap.size, 1, none⟩ = some (.int .u32 8388607) ∧ w'.cell? ⟨w.heap.size, 2, none⟩ = some (.int .u32 255) ∧ w'.cell? ⟨w.heap.size, 3, none⟩ = some (.int .u32 2147483648) ∧ w'.cell? ⟨w.heap.size, 4, none⟩ = some (.int .u32 2139095040) ∧ w'.cell? ⟨w.heap.size, 5, none⟩ = some (.int .u32 2143289344) ∧ w'.cell? ⟨w.heap.size, 6, none⟩ = some (.int .i64 150)) := (by refine ⟨?_, ?_, ?_, ?_, ?_, ?_, ?_⟩ <;> (rw [hc _ _ (by simp; omega)]; simp [go_sem, hz, q0, q1, q2, q3, q4, q5, q6])); obtain ⟨s0, s1, s2, s3, s4, s5, s6⟩ := hS; clear hc hf))
  go_wp2
  go_ret
  exact ⟨rfl, bl_then (Below.drew (bl_al hbb.out _)) hb⟩
theorem ulp_any32 (x : Nat) (w : World) (hx : x < 4294967296) (hT : Tab w) (hs : 1 < w.heap.size) :
    Calls Tryd.prog 93 #[.agg #[.int .i64 23, .int .u32 8388607, .int .u32 255, .int .u32 2147483648, .int .u32 2139095040, .int .u32 2143289344, .int .i64 150], .int .u32 x] w fun r w' => r = .returned (.int .u32 (ulpOf32 x)) ∧ Below w.heap.size w w' := by
  unfold ulpOf32
  by_cases h : expOf32 x = 255
  · rw [if_pos h]; exact ulp_top32 x w hx h
  · rw [if_neg h]
    have h2 : x % 2147483648 < 2139095040 := by
      apply Classical.byContradiction
      intro h3
      exact h ((exp_top32 x hx).2 h3)
    exact ulp_fin32 x (stepOf32 x) w hx (step_exp32 x h2).2 (step_exp32 x h2).1 hT hs
set_option maxHeartbeats 400000 in
theorem Ulp_any32 (x : Nat) (w : World) (hx : x < 4294967296) (hT : Tab w) (hs : 1 < w.heap.size) :
    Calls Tryd.prog 48 #[.float .f32 x] w fun r w' => r = .returned (.float .f32 (ulpOf32 x)) ∧ Below w.heap.size w w' := by
  have h1 := f64bits32
  have h2 := f64from32
  go_enter Tryd.func48, Tryd.ntmps48
  go_wp2_with fail
  refine (layout64_any32 _).mono ?_
  rintro r w1 ⟨rfl, hb⟩
  go_wp2_with fail
  refine (ulp_any32 x _ hx (hT.below hs hb) (Nat.lt_of_lt_of_le hs hb.size)).mono ?_
  rintro r w2 ⟨rfl, hb2⟩
  go_wp2_with fail
  go_ret
  exact ⟨rfl, bl_then hb hb2⟩
end Go.Proofs.YtfeojdmffipinaaDoor
