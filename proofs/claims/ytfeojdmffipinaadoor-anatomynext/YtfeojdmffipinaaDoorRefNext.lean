
/- What ulp and Ulp of all numbers, and the document's Next, Prev and Ulp, do. -/
import Derived.Test.YtfeojdmffipinaaDoorUlp
import Derived.Test.YtfeojdmffipinaaDoorNeigh
import Derived.Test.YtfeojdmffipinaaDoorNumsU
import Derived.Test.YtfeojdmffipinaaDoorRefKeys
import Derived.Test.YtfeojdmffipinaaDoorRefFields
import Derived.Test.YtfeojdmffipinaaDoorFieldsWalk
namespace Go.Proofs.YtfeojdmffipinaaDoor
open Go.RowKit Go.IntWalk

theorem f64neg (b : Nat) : Op.unary .neg (.float .f64 b) = pure (.float .f64 (b ^^^ 9223372036854775808)) := rfl
theorem xor_flip (x : Nat) (hx : x < 18446744073709551616) : x ^^^ 9223372036854775808 = flipOf x := by
  have h := u64_xor_nat x 9223372036854775808 hx (by omega)
  have h2 := xor_sign x hx
  have h3 : ((x ^^^ 9223372036854775808 : Nat) : Int) = (flipOf x : Int) := by rw [← h2, ← h]; rfl
  omega
set_option maxHeartbeats 400000 in
theorem abs_any (x : Nat) (w : World) (hx : x < 18446744073709551616) :
    Calls Tryd.prog 90 #[.float .f64 x] w fun r w' => r = .returned (.float .f64 (x % 9223372036854775808)) ∧ w' = w := by
  have h1 := f64bits
  have h2 := f64fromI
  go_enter Tryd.func90, Tryd.ntmps90
  go_wp2
  go_ret
  exact ⟨ret_f (by rw [andNot_sign x hx]; rfl), rfl⟩

/-- The step of any number. -/
def ulpOf (x : Nat) : Nat := if expOf x = 2047 then canonOf x % 9223372036854775808 else powN (stepOf x)
theorem exp_top (x : Nat) (_hx : x < 18446744073709551616) : expOf x = 2047 ↔ ¬ x % 9223372036854775808 < 9218868437227405312 := by
  unfold expOf canonOf
  split <;> constructor <;> intro h <;> omega

set_option maxHeartbeats 400000 in
theorem ulp_top (x : Nat) (w : World) (hx : x < 18446744073709551616) (he : expOf x = 2047) :
    Calls Tryd.prog 89 #[.agg #[.int .i64 52, .int .u64 4503599627370495, .int .u64 2047, .int .u64 9223372036854775808, .int .u64 9218868437227405312, .int .u64 9221120237041090561, .int .i64 1075], .int .u64 x] w fun r w' => r = .returned (.int .u64 ((canonOf x % 9223372036854775808 : Nat) : Int)) ∧ Below w.heap.size w w' := by
  have HE := hid he
  have hA := andNot_sign (canonOf x) (canon_lt hx)
  obtain ⟨c, hc⟩ : ∃ c, Hid (canonOf x % 9223372036854775808 = c) := ⟨_, rfl⟩
  rw [hc.out] at hA ⊢
  clear he
  go_enter Tryd.func89, Tryd.ntmps89
  go_wp2_with fail
  refine (split64_any x _ hx).mono ?_
  rw [HE.out]
  rintro r w1 ⟨rfl, hb⟩
  obtain ⟨hcl, hf⟩ := bcell hb
  have hcells : (w1.cell? ⟨w.heap.size, 0, none⟩ = some (.int .i64 52) ∧ w1.cell? ⟨w.heap.size, 1, none⟩ = some (.int .u64 4503599627370495) ∧ w1.cell? ⟨w.heap.size, 2, none⟩ = some (.int .u64 2047) ∧ w1.cell? ⟨w.heap.size, 3, none⟩ = some (.int .u64 9223372036854775808) ∧ w1.cell? ⟨w.heap.size, 4, none⟩ = some (.int .u64 9218868437227405312) ∧ w1.cell? ⟨w.heap.size, 5, none⟩ = some (.int .u64 9221120237041090561) ∧ w1.cell? ⟨w.heap.size, 6, none⟩ = some (.int .i64 1075)) := by
    refine ⟨?_, ?_, ?_, ?_, ?_, ?_, ?_⟩ <;> (rw [hcl _ _ (by simp)]; simp [go_sem])
  have hz : w.heap.size < w1.heap.size := by have := hb.size; simp at this; omega
  have hbb : Hid (Below w.heap.size w w1) := bl_alloc hb
  clear hcl hf hb
  obtain ⟨q0, q1, q2, q3, q4, q5, q6⟩ := hcells
  go_wp2_with fail
  go_region_held3 (fun w' => (w'.cell? ⟨w.heap.size, 0, none⟩ = some (.int .i64 52) ∧ w'.cell? ⟨w.heap.size, 1, none⟩ = some (.int .u64 4503599627370495) ∧ w'.cell? ⟨w.heap.size, 2, none⟩ = some (.int .u64 2047) ∧ w'.cell? ⟨w.heap.size, 3, none⟩ = some (.int .u64 9223372036854775808) ∧ w'.cell? ⟨w.heap.size, 4, none⟩ = some (.int .u64 9218868437227405312) ∧ w'.cell? ⟨w.heap.size, 5, none⟩ = some (.int .u64 9221120237041090561) ∧ w'.cell? ⟨w.heap.size, 6, none⟩ = some (.int .i64 1075))) (go_keep)
    (first | (go_at_call 74; refine (canon_eq x _ hx).mono ?_; rintro r w' ⟨rfl, rfl⟩))
  go_wp2
  go_ret
  refine ⟨rfl, ?_⟩
  repeat (first | exact hbb.out | refine bl_al ?_ _ | refine bl_drewN _ ?_ | refine Below.drew ?_)
theorem ulp_any (x : Nat) (w : World) (hx : x < 18446744073709551616) (hT : Tab w) (hs : 1 < w.heap.size) :
    Calls Tryd.prog 89 #[.agg #[.int .i64 52, .int .u64 4503599627370495, .int .u64 2047, .int .u64 9223372036854775808, .int .u64 9218868437227405312, .int .u64 9221120237041090561, .int .i64 1075], .int .u64 x] w fun r w' => r = .returned (.int .u64 (ulpOf x)) ∧ Below w.heap.size w w' := by
  unfold ulpOf
  by_cases h : expOf x = 2047
  · rw [if_pos h]; exact ulp_top x w hx h
  · rw [if_neg h]
    have h2 : x % 9223372036854775808 < 9218868437227405312 := by
      apply Classical.byContradiction
      intro h3
      exact h ((exp_top x hx).2 h3)
    exact ulp_fin x (stepOf x) w hx (step_exp x h2).2 (step_exp x h2).1 hT hs
set_option maxHeartbeats 400000 in
theorem Ulp_any (x : Nat) (w : World) (hx : x < 18446744073709551616) (hT : Tab w) (hs : 1 < w.heap.size) :
    Calls Tryd.prog 42 #[.float .f64 x] w fun r w' => r = .returned (.float .f64 (ulpOf x)) ∧ Below w.heap.size w w' := by
  have h1 := f64bits
  have h2 := f64from
  go_enter Tryd.func42, Tryd.ntmps42
  go_wp2_with fail
  refine (layout64_any _).mono ?_
  rintro r w1 ⟨rfl, hb⟩
  go_wp2_with fail
  refine (ulp_any x _ hx (hT.below hs hb) (Nat.lt_of_lt_of_le hs hb.size)).mono ?_
  rintro r w2 ⟨rfl, hb2⟩
  go_wp2_with fail
  go_ret
  exact ⟨rfl, bl_then hb hb2⟩

theorem next_canon (x : Nat) (hx : x < 18446744073709551616) (nx : x % 9223372036854775808 ≤ 9218868437227405312) : canonOf (nextOf x) = nextOf x := by
  have := next_num x hx nx
  unfold canonOf
  rw [if_neg (by omega)]
set_option maxHeartbeats 400000 in
theorem rnext_any (x : Nat) (w : World) (hx : x < 18446744073709551616) :
    Calls Tryd.prog 39 #[.float .f64 x] w fun r w' => r = .returned (.float .f64 (nextOf x)) ∧ w' = w := by
  have hz := order_zero x hx
  have hkb := key_bd x
  by_cases h0 : x % 9223372036854775808 = 0
  · rw [decide_eq_true h0] at hz
    have HN : Hid (unkeyOf 1 = nextOf x) := by
      show unkeyOf 1 = nextOf x
      have e : unkeyOf 1 = 1 := by decide
      rw [e]
      rcases (show x = 0 ∨ x = 9223372036854775808 by omega) with h | h
      · rw [h]; decide
      · rw [h]; exact next_nzero.symm
    clear h0
    go_enter Tryd.func39, Tryd.ntmps39
    go_wp2_with fail
    refine (rkey_any x _ hx).mono ?_
    rintro r w1 ⟨rfl, rfl⟩
    go_wp2_with fail
    refine (runkey_any 1 _ (by omega) (by omega)).mono ?_
    rw [HN.out]
    rintro r w1 ⟨rfl, rfl⟩
    go_wp2_with fail
    go_ret
    exact ⟨rfl, rfl⟩
  · rw [decide_eq_false h0] at hz
    by_cases hk : 9218868437227405312 ≤ keyOf x
    · have HN : Hid (canonOf x = nextOf x) := by
        show canonOf x = nextOf x
        have hc : canonOf x = 9221120237041090561 ∨ canonOf x = 9218868437227405312 := by
          by_cases hn : 9218868437227405312 < x % 9223372036854775808
          · left; unfold canonOf; rw [if_pos hn]
          · right
            rw [key_num x (by omega)] at hk
            unfold canonOf
            rw [if_neg hn]
            split at hk <;> omega
        unfold nextOf
        rw [if_pos hc]
      clear h0
      go_enter Tryd.func39, Tryd.ntmps39
      go_wp2_with fail
      refine (rkey_any x _ hx).mono ?_
      rintro r w1 ⟨rfl, rfl⟩
      go_wp2_with fail
      refine (rcanon_any x _ hx).mono ?_
      rw [HN.out]
      rintro r w1 ⟨rfl, rfl⟩
      go_wp2_with fail
      go_ret
      exact ⟨rfl, rfl⟩
    · have hk2 : keyOf x ≤ 9218868437227405311 := by omega
      have nx : x % 9223372036854775808 ≤ 9218868437227405312 := by
        apply Classical.byContradiction
        intro h3
        have := (key_nan_iff x).2 (by omega)
        omega
      have HN : Hid (unkeyOf (keyOf x + 1) = nextOf x) := by
        show unkeyOf (keyOf x + 1) = nextOf x
        have hi : x ≠ 9218868437227405312 := by
          intro he
          have e : keyOf 9218868437227405312 = 9218868437227405312 := by decide
          rw [he, e] at hk2
          omega
        rw [← key_next x hx nx hi (by omega), (unkey_key (nextOf x) (next_lt hx)).1, next_canon x hx nx]
      clear h0 hk nx
      go_enter Tryd.func39, Tryd.ntmps39
      go_wp2_with fail
      refine (rkey_any x _ hx).mono ?_
      rintro r w1 ⟨rfl, rfl⟩
      go_wp2_with fail
      refine (runkey_any (keyOf x + 1) _ (by omega) (by omega)).mono ?_
      rw [HN.out]
      rintro r w1 ⟨rfl, rfl⟩
      go_wp2_with fail
      go_ret
      exact ⟨rfl, rfl⟩

set_option maxHeartbeats 400000 in
theorem rprev_any (x : Nat) (w : World) (hx : x < 18446744073709551616) :
    Calls Tryd.prog 41 #[.float .f64 x] w fun r w' => r = .returned (.float .f64 (prevOf x)) ∧ w' = w := by
  have ho := order_self x hx
  have h1 := f64neg
  by_cases hn : 9218868437227405312 < x % 9223372036854775808
  · rw [decide_eq_true hn] at ho
    have HN : Hid (prevOf x = 9221120237041090561) := by
      have hc : canonOf x = 9221120237041090561 := by unfold canonOf; rw [if_pos hn]
      show prevOf x = _
      unfold prevOf
      rw [if_pos hc]
    clear hn
    go_enter Tryd.func41, Tryd.ntmps41
    go_wp2_with fail
    refine (nan_any _).mono ?_
    rintro r w1 ⟨rfl, rfl⟩
    go_wp2_with fail
    go_ret
    exact ⟨ret_f HN.out.symm, rfl⟩
  · rw [decide_eq_false hn] at ho
    have HN : Hid (prevOf x = flipOf (nextOf (flipOf x))) := by
      have hc : canonOf x = x := by unfold canonOf; rw [if_neg hn]
      show prevOf x = _
      unfold prevOf
      rw [hc, if_neg (by omega)]
    have hx1 := xor_flip x hx
    have HF : Hid (flipOf x < 18446744073709551616) := flip_lt hx
    obtain ⟨d, hd⟩ : ∃ d, Hid (flipOf x = d) := ⟨_, rfl⟩
    rw [hd.out] at HF hx1 HN
    have hx2 := xor_flip (nextOf d) (next_lt HF.out)
    clear hn
    go_enter Tryd.func41, Tryd.ntmps41
    go_wp2_with fail
    refine (rnext_any d _ HF.out).mono ?_
    rintro r w1 ⟨rfl, rfl⟩
    go_wp2_with fail
    go_ret
    exact ⟨ret_f HN.out.symm, rfl⟩
end Go.Proofs.YtfeojdmffipinaaDoor
