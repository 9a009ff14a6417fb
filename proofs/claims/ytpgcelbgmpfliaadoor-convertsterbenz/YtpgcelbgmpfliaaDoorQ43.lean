
/- What convert's oddSum does, and the same with both signs turned. -/
import Derived.Test.YtpgcelbgmpfliaaDoorQ1
import Derived.Test.YtpgcelbgmpfliaaDoorQ34
import Derived.Test.YtpgcelbgmpfliaaDoorQ41
namespace Go.Proofs.YtpgcelbgmpfliaaDoor
open Go.RowKit

set_option maxHeartbeats 400000 in
theorem next64_any (x : Nat) (w : World) (hx : x < 18446744073709551616) :
    Calls Tryd.prog 101 #[.agg #[.int .i64 52, .int .u64 4503599627370495, .int .u64 2047, .int .u64 9223372036854775808, .int .u64 9218868437227405312, .int .u64 9221120237041090561, .int .i64 1075], .int .u64 x] w fun e w' => e = .returned (.int .u64 (nextOf x)) ∧ Below w.heap.size w w' := by
  have HL : Hid (canonOf x < 18446744073709551616) := canon_lt hx
  have HC : Hid (canonOf x = 9221120237041090561 ∨ canonOf x % 9223372036854775808 ≤ 9218868437227405312) := canon_cases x
  obtain ⟨c, hc⟩ : ∃ c, Hid (canonOf x = c) := ⟨_, rfl⟩
  rw [hc.out] at HL HC
  go_enter Tryd.func101, Tryd.ntmps101
  go_wp2_with fail
  refine (canon_any x _ hx).mono ?_
  rintro e w1 ⟨rfl, hb⟩
  rw [hc.out]
  obtain ⟨hcl, hf⟩ := bcell hb
  go_wp2
  all_goals go_ret
  · first | exact ⟨ret_int (next_w1 hc.out ‹_›), bl_alloc hb⟩ | exact ⟨ret_int (by rw [← next_w1 hc.out ‹_›]; exact Eq.symm ‹_›), bl_alloc hb⟩
  · exact ⟨ret_int (next_w2 hc.out ‹_›), bl_alloc hb⟩
  · exact ⟨ret_int (next_w3 hc.out ‹_›), bl_alloc hb⟩
  · exact ⟨ret_int (next_w4 hc.out HL.out ‹_› ‹_› ‹_›), bl_alloc hb⟩
  · exact ⟨ret_int (next_w5 hc.out HL.out HC.out ‹_› ‹_› ‹_›), bl_alloc hb⟩

set_option maxHeartbeats 400000 in
theorem Next_any (x : Nat) (w : World) (hx : x < 18446744073709551616) :
    Calls Tryd.prog 88 #[.float .f64 x] w fun r w' => r = .returned (.float .f64 (nextOf x)) ∧ Below w.heap.size w w' := by
  have h1 := f64bits
  have h2 := f64from
  go_enter Tryd.func88, Tryd.ntmps88
  go_wp2_with fail
  refine (layout64_any _).mono ?_
  rintro r w1 ⟨rfl, hb⟩
  go_wp2_with fail
  refine (next64_any x _ hx).mono ?_
  rintro r w2 ⟨rfl, hb2⟩
  go_wp2_with fail
  go_ret
  exact ⟨rfl, bl_then hb hb2⟩

set_option maxHeartbeats 400000 in
theorem prev64_nan (x : Nat) (w : World) (hx : x < 18446744073709551616) (hn : canonOf x = 9221120237041090561) :
    Calls Tryd.prog 102 #[.agg #[.int .i64 52, .int .u64 4503599627370495, .int .u64 2047, .int .u64 9223372036854775808, .int .u64 9218868437227405312, .int .u64 9221120237041090561, .int .i64 1075], .int .u64 x] w fun e w' => e = .returned (.int .u64 9221120237041090561) ∧ Below w.heap.size w w' := by
  have HN : Hid (canonOf x = 9221120237041090561) := hn
  clear hn
  go_enter Tryd.func102, Tryd.ntmps102
  go_wp2_with fail
  refine (canon_any x _ hx).mono ?_
  rintro e w1 ⟨rfl, hb⟩
  rw [HN.out]
  obtain ⟨hcl, hf⟩ := bcell hb
  go_wp2
  go_ret
  exact ⟨rfl, bl_alloc hb⟩
set_option maxHeartbeats 400000 in
theorem prev64_num (x : Nat) (w : World) (hx : x < 18446744073709551616) (hn : canonOf x ≠ 9221120237041090561) :
    Calls Tryd.prog 102 #[.agg #[.int .i64 52, .int .u64 4503599627370495, .int .u64 2047, .int .u64 9223372036854775808, .int .u64 9218868437227405312, .int .u64 9221120237041090561, .int .i64 1075], .int .u64 x] w fun e w' => e = .returned (.int .u64 (flipOf (nextOf (flipOf (canonOf x))))) ∧ Below w.heap.size w w' := by
  have HL : Hid (canonOf x < 18446744073709551616) := canon_lt hx
  obtain ⟨c, hc⟩ : ∃ c, Hid (canonOf x = c) := ⟨_, rfl⟩
  rw [hc.out] at HL hn ⊢
  have hn' : ((c : Int) == 9221120237041090561) = false := by simp; omega
  have hx1 := xor_sign c HL.out
  have HF : Hid (flipOf c < 18446744073709551616) := flip_lt HL.out
  obtain ⟨d, hd⟩ : ∃ d, Hid (flipOf c = d) := ⟨_, rfl⟩
  rw [hd.out] at HF hx1 ⊢
  have hx2 := xor_sign (nextOf d) (next_lt HF.out)
  clear hn
  go_enter Tryd.func102, Tryd.ntmps102
  go_wp2_with fail
  refine (canon_any x _ hx).mono ?_
  rintro e w1 ⟨rfl, hb⟩
  rw [hc.out]
  obtain ⟨hcl, hf⟩ := bcell hb
  have hcells : (w1.cell? ⟨w.heap.size, 0, none⟩ = some (.int .i64 52) ∧ w1.cell? ⟨w.heap.size, 1, none⟩ = some (.int .u64 4503599627370495) ∧ w1.cell? ⟨w.heap.size, 2, none⟩ = some (.int .u64 2047) ∧ w1.cell? ⟨w.heap.size, 3, none⟩ = some (.int .u64 9223372036854775808) ∧ w1.cell? ⟨w.heap.size, 4, none⟩ = some (.int .u64 9218868437227405312) ∧ w1.cell? ⟨w.heap.size, 5, none⟩ = some (.int .u64 9221120237041090561) ∧ w1.cell? ⟨w.heap.size, 6, none⟩ = some (.int .i64 1075)) := by
    refine ⟨?_, ?_, ?_, ?_, ?_, ?_, ?_⟩ <;> (rw [hcl _ _ (by simp)]; simp [go_sem])
  have hz : w.heap.size < w1.heap.size := by have := hb.size; simp at this; omega
  have hbb : Hid (Below w.heap.size w w1) := bl_alloc hb
  clear hcl hf hb
  obtain ⟨q0, q1, q2, q3, q4, q5, q6⟩ := hcells
  go_wp2_with fail
  go_region_held3 (fun w' => (w'.cell? ⟨w.heap.size, 0, none⟩ = some (.int .i64 52) ∧ w'.cell? ⟨w.heap.size, 1, none⟩ = some (.int .u64 4503599627370495) ∧ w'.cell? ⟨w.heap.size, 2, none⟩ = some (.int .u64 2047) ∧ w'.cell? ⟨w.heap.size, 3, none⟩ = some (.int .u64 9223372036854775808) ∧ w'.cell? ⟨w.heap.size, 4, none⟩ = some (.int .u64 9218868437227405312) ∧ w'.cell? ⟨w.heap.size, 5, none⟩ = some (.int .u64 9221120237041090561) ∧ w'.cell? ⟨w.heap.size, 6, none⟩ = some (.int .i64 1075))) (go_keep)
    (first | (go_at_call 101; refine (next64_any d _ HF.out).mono ?_; rintro r w' ⟨rfl, hb⟩; obtain ⟨hc2, hf2⟩ := bcell hb; have hS : (w'.cell? ⟨w.heap.size, 0, none⟩ = some (.int .i64 52) ∧ w'.cell? ⟨w.heap.size, 1, none⟩ = some (.int .u64 4503599627370495) ∧ w'.cell? ⟨w.heap.size, 2, none⟩ = some (.int .u64 2047) ∧ w'.cell? ⟨w.heap.size, 3, none⟩ = some (.int .u64 9223372036854775808) ∧ w'.cell? ⟨w.heap.size, 4, none⟩ = some (.int .u64 9218868437227405312) ∧ w'.cell? ⟨w.heap.size, 5, none⟩ = some (.int .u64 9221120237041090561) ∧ w'.cell? ⟨w.heap.size, 6, none⟩ = some (.int .i64 1075)) := (by refine ⟨?_, ?_, ?_, ?_, ?_, ?_, ?_⟩ <;> (rw [hc2 _ _ (by simp; omega)]; simp [go_sem, q0, q1, q2, q3, q4, q5, q6])); obtain ⟨s0, s1, s2, s3, s4, s5, s6⟩ := hS; clear hc2 hf2))
  go_wp2
  go_ret
  exact ⟨rfl, bl_then (Below.drew hbb.out) hb⟩

theorem prev64_any (x : Nat) (w : World) (hx : x < 18446744073709551616) :
    Calls Tryd.prog 102 #[.agg #[.int .i64 52, .int .u64 4503599627370495, .int .u64 2047, .int .u64 9223372036854775808, .int .u64 9218868437227405312, .int .u64 9221120237041090561, .int .i64 1075], .int .u64 x] w fun e w' => e = .returned (.int .u64 (prevOf x)) ∧ Below w.heap.size w w' := by
  unfold prevOf
  by_cases h : canonOf x = 9221120237041090561
  · rw [if_pos h]; exact prev64_nan x w hx h
  · rw [if_neg h]; exact prev64_num x w hx h
set_option maxHeartbeats 400000 in
theorem Prev_any (x : Nat) (w : World) (hx : x < 18446744073709551616) :
    Calls Tryd.prog 89 #[.float .f64 x] w fun r w' => r = .returned (.float .f64 (prevOf x)) ∧ Below w.heap.size w w' := by
  have h1 := f64bits
  have h2 := f64from
  go_enter Tryd.func89, Tryd.ntmps89
  go_wp2_with fail
  refine (layout64_any _).mono ?_
  rintro r w1 ⟨rfl, hb⟩
  go_wp2_with fail
  refine (prev64_any x _ hx).mono ?_
  rintro r w2 ⟨rfl, hb2⟩
  go_wp2_with fail
  go_ret
  exact ⟨rfl, bl_then hb hb2⟩
end Go.Proofs.YtpgcelbgmpfliaaDoor

namespace Go.Proofs.YtpgcelbgmpfliaaDoor
open Go.RowKit Go.IntWalk

/-- Two finite numbers of opposite values. -/
def Opp (x x' : Nat) : Prop := x < 18446744073709551616 ∧ x' < 18446744073709551616 ∧ x % 9223372036854775808 < 9218868437227405312 ∧ x' % 9223372036854775808 < 9218868437227405312 ∧ sv x' = -sv x
theorem sv_abs (x : Nat) : (sv x).natAbs = nv (x % 9223372036854775808) := by unfold sv; split <;> omega
theorem sv_rn (s : Bool) (V : Int) (hf : rnR V.natAbs < 9218868437227405312) (hs : V ≠ 0 → s = decide (V < 0)) : sv (signN s (rnR V.natAbs)) = if V < 0 then -(nv (rnR V.natAbs) : Int) else (nv (rnR V.natAbs) : Int) := by
  rw [sv_sign s _ (by omega)]
  by_cases h0 : V = 0
  · have : rnR V.natAbs = 0 := by rw [h0]; unfold rnR; show FloatKind.f64.format.nearest false 0 (-1074) = 0; rw [nearest_zero, word_false]
    rw [this, nv_zero]
    split <;> split <;> rfl
  · rw [hs h0]
    simp only [decide_eq_true_eq]
theorem opp_rn (s s' : Bool) (V : Int) (k : Nat) (hk : k ≤ 2000) (hV : V.natAbs ≤ 2 ^ k) (hs : V ≠ 0 → s = decide (V < 0)) (hs' : -V ≠ 0 → s' = decide (-V < 0)) : Opp (signN s (rnR V.natAbs)) (signN s' (rnR (-V).natAbs)) ∧ (sv (signN s (rnR V.natAbs))).natAbs ≤ 2 ^ k := by
  obtain ⟨h1, h2⟩ := rn_bound V.natAbs k hV hk
  have e : (-V).natAbs = V.natAbs := Int.natAbs_neg V
  have v1 := sv_rn s V h1 hs
  have v2 := sv_rn s' (-V) (by rw [e]; exact h1) hs'
  rw [e] at v2 ⊢
  obtain ⟨a1, _, a3⟩ := signN_mod s (rnR V.natAbs) (by omega)
  obtain ⟨b1, _, b3⟩ := signN_mod s' (rnR V.natAbs) (by omega)
  refine ⟨⟨a3, b3, by omega, by omega, ?_⟩, by rw [sv_abs, a1]; exact h2⟩
  rw [v1, v2]
  by_cases h0 : V = 0
  · have : rnR V.natAbs = 0 := by rw [h0]; unfold rnR; show FloatKind.f64.format.nearest false 0 (-1074) = 0; rw [nearest_zero, word_false]
    rw [this, nv_zero]
    split <;> split <;> rfl
  · split <;> split <;> omega
theorem pow_two_add (a b : Int) (k : Nat) (ha : a.natAbs ≤ 2 ^ k) (hb : b.natAbs ≤ 2 ^ k) : (a + b).natAbs ≤ 2 ^ (k + 1) ∧ (a - b).natAbs ≤ 2 ^ (k + 1) := by
  rw [Nat.pow_succ]
  omega
theorem add_opp (x y x' y' k : Nat) (hk : k + 1 ≤ 2000) (hx : Opp x x') (hy : Opp y y') (bx : (sv x).natAbs ≤ 2 ^ k) (bys : (sv y).natAbs ≤ 2 ^ k) : ∃ r r', FloatKind.f64.format.add x y = some r ∧ FloatKind.f64.format.add x' y' = some r' ∧ Opp r r' ∧ (sv r).natAbs ≤ 2 ^ (k + 1) := by
  obtain ⟨s, e1, h1⟩ := add_val x y hx.1 hy.1 hx.2.2.1 hy.2.2.1
  obtain ⟨s', e2, h2⟩ := add_val x' y' hx.2.1 hy.2.1 hx.2.2.2.1 hy.2.2.2.1
  have ev : sv x' + sv y' = -(sv x + sv y) := by rw [hx.2.2.2.2, hy.2.2.2.2]; omega
  rw [ev] at e2 h2
  obtain ⟨o1, o2⟩ := opp_rn s s' (sv x + sv y) (k + 1) hk (pow_two_add _ _ k bx bys).1 h1 h2
  exact ⟨_, _, e1, e2, o1, o2⟩
theorem sub_opp (x y x' y' k : Nat) (hk : k + 1 ≤ 2000) (hx : Opp x x') (hy : Opp y y') (bx : (sv x).natAbs ≤ 2 ^ k) (bys : (sv y).natAbs ≤ 2 ^ k) : ∃ r r', FloatKind.f64.format.sub x y = some r ∧ FloatKind.f64.format.sub x' y' = some r' ∧ Opp r r' ∧ (sv r).natAbs ≤ 2 ^ (k + 1) := by
  obtain ⟨s, e1, h1⟩ := sub_val x y hx.1 hy.1 hx.2.2.1 hy.2.2.1
  obtain ⟨s', e2, h2⟩ := sub_val x' y' hx.2.1 hy.2.1 hx.2.2.2.1 hy.2.2.2.1
  have ev : sv x' - sv y' = -(sv x - sv y) := by rw [hx.2.2.2.2, hy.2.2.2.2]; omega
  rw [ev] at e2 h2
  obtain ⟨o1, o2⟩ := opp_rn s s' (sv x - sv y) (k + 1) hk (pow_two_add _ _ k bx bys).2 h1 h2
  exact ⟨_, _, e1, e2, o1, o2⟩
theorem le_pow_succ {a k : Nat} (h : a ≤ 2 ^ k) : a ≤ 2 ^ (k + 1) := Nat.le_trans h (Nat.pow_le_pow_right (by decide) (by omega))
/-- Opposite numbers that aren't 0 are the same but for the sign. -/
theorem opp_flip (x x' : Nat) (h : Opp x x') (h0 : x % 9223372036854775808 ≠ 0) : x' = flipOf x := by
  obtain ⟨hx, hx', _, _, hv⟩ := h
  have e := sign_of x hx
  have e' := sign_of x' hx'
  have hn : nv (x' % 9223372036854775808) = nv (x % 9223372036854775808) := by rw [← sv_abs, ← sv_abs, hv, Int.natAbs_neg]
  have hm := nv_inj hn
  have hp := nv_lt (r := 0) (s := x % 9223372036854775808) (by omega)
  rw [nv_zero] at hp
  unfold sv at hv
  rw [hm] at hv
  unfold flipOf
  split at hv <;> split at hv <;> split <;> omega
set_option maxHeartbeats 400000 in
theorem oddSum_core (x y s b t1 t2 t3 l : Nat) (z o g : Bool) (w : World) (h1 : FloatKind.f64.format.add x y = some s) (h2 : FloatKind.f64.format.sub s x = some b) (h3 : FloatKind.f64.format.sub s b = some t1) (h4 : FloatKind.f64.format.sub x t1 = some t2) (h5 : FloatKind.f64.format.sub y b = some t3) (h6 : FloatKind.f64.format.add t2 t3 = some l)
    (hz : (FloatKind.f64.format.order l 0 == some .eq) = z) (ho : (bits .and .u64 (s : Int) 1 == 1) = o) (hg : (FloatKind.f64.format.order l 0 == some .gt) = g) (hs : s < 18446744073709551616) :
    Calls Tryd.prog 63 #[.float .f64 x, .float .f64 y] w fun r w' => r = .returned (.float .f64 (if z = true ∨ o = true then s else if g = true then nextOf s else prevOf s)) ∧ Below w.heap.size w w' := by
  have r1 : ∀ w : World, (binOp .add 30 (.float .f64 x) (.float .f64 y)).run Tryd.prog w = .ok (.float .f64 s) w := fun w => run_float_arith w .add _ .f64 _ _ _ h1
  have r2 : ∀ w : World, (binOp .sub 30 (.float .f64 s) (.float .f64 x)).run Tryd.prog w = .ok (.float .f64 b) w := fun w => run_float_arith w .sub _ .f64 _ _ _ h2
  have r3 : ∀ w : World, (binOp .sub 30 (.float .f64 s) (.float .f64 b)).run Tryd.prog w = .ok (.float .f64 t1) w := fun w => run_float_arith w .sub _ .f64 _ _ _ h3
  have r4 : ∀ w : World, (binOp .sub 30 (.float .f64 x) (.float .f64 t1)).run Tryd.prog w = .ok (.float .f64 t2) w := fun w => run_float_arith w .sub _ .f64 _ _ _ h4
  have r5 : ∀ w : World, (binOp .sub 30 (.float .f64 y) (.float .f64 b)).run Tryd.prog w = .ok (.float .f64 t3) w := fun w => run_float_arith w .sub _ .f64 _ _ _ h5
  have r6 : ∀ w : World, (binOp .add 30 (.float .f64 t2) (.float .f64 t3)).run Tryd.prog w = .ok (.float .f64 l) w := fun w => run_float_arith w .add _ .f64 _ _ _ h6
  have hb := f64bits
  have HN := hid (fun (w : World) => Next_any s w hs)
  have HP := hid (fun (w : World) => Prev_any s w hs)
  obtain ⟨N, hN⟩ : ∃ N, Hid (nextOf s = N) := ⟨_, rfl⟩
  obtain ⟨P, hP⟩ : ∃ P, Hid (prevOf s = P) := ⟨_, rfl⟩
  rw [hN.out] at HN ⊢
  rw [hP.out] at HP ⊢
  obtain ⟨X, hX⟩ : ∃ X, Hid ((if z = true ∨ o = true then s else if g = true then N else P) = X) := ⟨_, rfl⟩
  rw [hX.out]
  clear h1 h2 h3 h4 h5 h6 hs
  cases z
  · cases o
    · cases g
      · go_enter Tryd.func63, Tryd.ntmps63
        go_wp2_with fail
        refine (HP.out _).mono ?_
        rintro e w1 ⟨rfl, hb1⟩
        go_wp2
        go_ret
        exact ⟨by rw [← hX.out]; rfl, hb1⟩
      · go_enter Tryd.func63, Tryd.ntmps63
        go_wp2_with fail
        refine (HN.out _).mono ?_
        rintro e w1 ⟨rfl, hb1⟩
        go_wp2
        go_ret
        exact ⟨by rw [← hX.out]; rfl, hb1⟩
    · go_enter Tryd.func63, Tryd.ntmps63
      go_wp2
      go_ret
      exact ⟨by rw [← hX.out]; rfl, Below.refl _ _⟩
  · go_enter Tryd.func63, Tryd.ntmps63
    go_wp2
    go_ret
    exact ⟨by rw [← hX.out]; rfl, Below.refl _ _⟩
end Go.Proofs.YtpgcelbgmpfliaaDoor
