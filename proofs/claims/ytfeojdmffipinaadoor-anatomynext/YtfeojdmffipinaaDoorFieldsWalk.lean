
/- What the document's Join, and Finite and AllFinite of a list, do; what the law AnatomyFields answers. -/
import Derived.Test.YtfeojdmffipinaaDoorRefFields
import Derived.Test.YtfeojdmffipinaaDoorAwake
namespace Go.Proofs.YtfeojdmffipinaaDoor
open Go.RowKit Go.IntWalk

theorem u64wrap_lt (n : Int) : (IntKind.u64.wrap n).toNat < 18446744073709551616 := by rw [IntKind.wrap_u64]; omega
theorem class_fin (x : Nat) : decide ((2 : Int) < (classN x : Int)) = !(expOf x == 2047) := by
  unfold classN
  by_cases h : expOf x = 2047
  · rw [if_pos h, h]; split <;> rfl
  · rw [if_neg h]
    have : (expOf x == 2047) = false := by simpa using h
    rw [this]
    split
    · split <;> rfl
    · rfl
set_option maxHeartbeats 400000 in
theorem rjoin_bad (neg : Bool) (e : Int) (f : Nat) (w : World) (h : joinBad e f) :
    Calls Tryd.prog 19 #[.bool neg, .int .i64 e, .int .u64 f] w fun r w' => r = .returned (.tuple #[.float .f64 0, .int .i64 1]) ∧ w' = w := by
  unfold joinBad at h
  by_cases h0 : e < 0
  · clear h
    go_enter Tryd.func19, Tryd.ntmps19
    go_wp2
    go_ret2
    exact ⟨rfl, rfl⟩
  · by_cases h1 : 2047 < e
    · clear h
      go_enter Tryd.func19, Tryd.ntmps19
      go_wp2
      go_ret2
      exact ⟨rfl, rfl⟩
    · have h2 : (4503599627370496 : Int) ≤ (f : Int) := by omega
      clear h
      go_enter Tryd.func19, Tryd.ntmps19
      go_wp2
      go_ret2
      exact ⟨rfl, rfl⟩
set_option maxHeartbeats 400000 in
theorem rjoin_ok (neg : Bool) (X f : Nat) (w : World) (hX : X < 2048) (hf : f < 4503599627370496) :
    Calls Tryd.prog 19 #[.bool neg, .int .i64 X, .int .u64 f] w fun r w' => r = .returned (.tuple #[.float .f64 (canonOf (signN neg (packN X f))), .int .i64 0]) ∧ w' = w := by
  have h1 := f64fromI
  have HX := hid hX
  have HF := hid hf
  have hX2 : (X : Int) ≤ 2047 := by omega
  have hf2 : (f : Int) ≤ 4503599627370495 := by omega
  clear hX hf
  cases neg
  all_goals
    go_enter Tryd.func19, Tryd.ntmps19
    go_wp2_with fail
  · refine (rcanon_any (packN X f) _ (Nat.lt_trans (pack_lt X f HX.out HF.out) (by decide))).mono ?_
    rintro r w' ⟨rfl, rfl⟩
    go_wp2_with fail
    go_ret2
    exact ⟨ret_fi (by rw [signN_false]) rfl, rfl⟩
  · refine (rcanon_any (packN X f + 9223372036854775808) _ (by have := pack_lt X f HX.out HF.out; omega)).mono ?_
    rintro r w' ⟨rfl, rfl⟩
    go_wp2_with fail
    go_ret2
    exact ⟨ret_fi rfl rfl, rfl⟩
theorem rjoin_any (neg : Bool) (e : Int) (f : Nat) (w : World) :
    Calls Tryd.prog 19 #[.bool neg, .int .i64 e, .int .u64 f] w fun r w' => r = .returned (.tuple #[.float .f64 (joinOf neg e f), .int .i64 (joinErr e f)]) ∧ w' = w := by
  unfold joinOf joinErr
  by_cases h : joinBad e f
  · rw [if_pos h, if_pos h]; exact rjoin_bad neg e f w h
  · rw [if_neg h, if_neg h]
    unfold joinBad at h
    obtain ⟨X, rfl⟩ := Int.eq_ofNat_of_zero_le (show 0 ≤ e by omega)
    exact rjoin_ok neg X f w (by omega) (by omega)
set_option maxHeartbeats 400000 in
theorem rfinite_any (x : Nat) (w : World) (hx : x < 18446744073709551616) :
    Calls Tryd.prog 75 #[.float .f64 x] w fun r w' => r = .returned (.bool (!(expOf x == 2047))) ∧ w' = w := by
  go_enter Tryd.func75, Tryd.ntmps75
  go_wp2_with fail
  refine (rclass_any x _ hx).mono ?_
  rintro r w' ⟨rfl, rfl⟩
  go_wp2_with fail
  go_ret
  exact ⟨ret_bool (class_fin x), rfl⟩

/-- Whether all numbers of a list are finite. -/
def allFin (zs : List Nat) : Bool := zs.all fun z => !(expOf z == 2047)
theorem allFin_take (zs : List Nat) (k : Nat) (h : k < zs.length) : allFin (zs.take (k + 1)) = (allFin (zs.take k) && !(expOf (zs.getD k 0) == 2047)) := by
  unfold allFin
  rw [List.take_succ_eq_append_getElem h, List.all_append]
  simp [List.getD, h]
theorem allFin_false (zs : List Nat) (k : Nat) (h : allFin (zs.take k) = false) : allFin zs = false := by
  unfold allFin at *
  rw [← List.take_append_drop k zs, List.all_append, h]; rfl
theorem allFin_all (zs : List Nat) (k : Nat) (hk : zs.length ≤ k) (h : allFin (zs.take k) = true) : allFin zs = true := by
  rwa [List.take_of_length_le hk] at h
set_option maxHeartbeats 1000000 in
theorem Finite_any (zs : List Nat) (b off cap : Nat) (w : World) (hb : b < w.heap.size) (hcell : ∀ i, i < zs.length → w.cell? ⟨b, off + i, none⟩ = some (.float .f64 (zs.getD i 0))) (hz : ∀ i, i < zs.length → zs.getD i 0 < 18446744073709551616) (hn : zs.length ≤ 140737488355328) :
    Calls Tryd.prog 25 #[.slice (some ⟨b, off, none⟩) zs.length cap] w fun r w' => r = .returned (.bool (allFin zs)) ∧ Below w.heap.size w w' := by
  have HC := hid hcell
  have HZ := hid hz
  obtain ⟨n, hnl⟩ : ∃ n, Hid (zs.length = n) := ⟨_, rfl⟩
  rw [hnl.out] at hn ⊢
  clear hcell hz
  go_enter Tryd.func25, Tryd.ntmps25
  go_wp2
  go_loopw [10] (fun i wr => ∃ k : Nat, k ≤ n ∧ i = .int .i64 k ∧ Hid (allFin (zs.take k) = true) ∧ Below w.heap.size w wr) (fun i _ => n - (intOf i).toNat)
  case atStart => exact ⟨0, Nat.zero_le _, rfl, rfl, Below.refl _ _⟩
  case round =>
    obtain ⟨k, hkn, rfl, HA, hbr⟩ := hrel
    by_cases hlt : k < n
    · have hck : wr.cell? ⟨b, off + k, none⟩ = some (.float .f64 (zs.getD k 0)) := by
        rw [hbr.cell (p := ⟨b, off + k, none⟩) hb]
        exact HC.out k (by rw [hnl.out]; exact hlt)
      have HZK : Hid (zs.getD k 0 < 18446744073709551616) := HZ.out k (by rw [hnl.out]; exact hlt)
      have HTK : Hid (allFin (zs.take (k + 1)) = (allFin (zs.take k) && !(expOf (zs.getD k 0) == 2047))) := allFin_take zs k (by rw [hnl.out]; exact hlt)
      obtain ⟨z, hzz⟩ : ∃ z, Hid (zs.getD k 0 = z) := ⟨_, rfl⟩
      rw [hzz.out] at hck HZK HTK
      go_wp2_with (first | (go_at_call 11; refine (Split_any z _ HZK.out).mono ?_; rintro e w1 ⟨rfl, hb1⟩))
      · go_ret
        refine ⟨ret_bool (allFin_false zs (k + 1) ?_).symm, bl_then hbr hb1⟩
        have he : expOf z = 2047 := by have : ((expOf z : Int) == 2047) = true := by assumption
                                       rw [beq_iff_eq] at this
                                       omega
        rw [HTK.out, he]; simp
      · have he : (expOf z == 2047) = false := by
          have : ((expOf z : Int) == 2047) = false := by assumption
          rw [beq_eq_false_iff_ne] at this ⊢
          omega
        go_roundw
        case rel => exact ⟨k + 1, by omega, by go_num, by show allFin _ = true; rw [HTK.out, HA.out, he]; rfl, bl_then hbr hb1⟩
        case measure => simp [intOf]; omega
    · go_wp2
      go_ret
      exact ⟨ret_bool (allFin_all zs k (by rw [hnl.out]; omega) HA.out).symm, hbr⟩
set_option maxHeartbeats 400000 in
theorem Finite_nil (w : World) :
    Calls Tryd.prog 25 #[.slice none 0 0] w fun r w' => r = .returned (.bool true) ∧ w' = w := by
  go_enter Tryd.func25, Tryd.ntmps25
  go_wp2
  refine wp_loop_rounds 1 ?_
  rw [rounds_succ]
  go_wp2
  go_ret
  exact ⟨rfl, rfl⟩

set_option maxHeartbeats 1000000 in
theorem rallfin_any (zs : List Nat) (b off cap : Nat) (w : World) (hcell : ∀ i, i < zs.length → w.cell? ⟨b, off + i, none⟩ = some (.float .f64 (zs.getD i 0))) (hz : ∀ i, i < zs.length → zs.getD i 0 < 18446744073709551616) (hn : zs.length ≤ 140737488355328) :
    Calls Tryd.prog 26 #[.slice (some ⟨b, off, none⟩) zs.length cap] w fun r w' => r = .returned (.bool (allFin zs)) ∧ w' = w := by
  have HC := hid hcell
  have HZ := hid hz
  obtain ⟨n, hnl⟩ : ∃ n, Hid (zs.length = n) := ⟨_, rfl⟩
  rw [hnl.out] at hn ⊢
  clear hcell hz
  go_enter Tryd.func26, Tryd.ntmps26
  go_wp2
  go_loop [7] (fun i => ∃ k : Nat, k ≤ n ∧ i = .int .i64 k ∧ Hid (allFin (zs.take k) = true)) (fun i => n - (intOf i).toNat)
  case atStart => exact ⟨0, Nat.zero_le _, rfl, rfl⟩
  case round =>
    obtain ⟨k, hkn, rfl, HA⟩ := hrel
    by_cases hlt : k < n
    · have hck := HC.out k (by rw [hnl.out]; exact hlt)
      have HZK : Hid (zs.getD k 0 < 18446744073709551616) := HZ.out k (by rw [hnl.out]; exact hlt)
      have HTK : Hid (allFin (zs.take (k + 1)) = (allFin (zs.take k) && !(expOf (zs.getD k 0) == 2047))) := allFin_take zs k (by rw [hnl.out]; exact hlt)
      obtain ⟨z, hzz⟩ : ∃ z, Hid (zs.getD k 0 = z) := ⟨_, rfl⟩
      rw [hzz.out] at hck HZK HTK
      by_cases he : expOf z = 2047
      · have hq : (expOf z == 2047) = true := by rw [he]; rfl
        have HQ := hid hq
        clear he hq
        go_wp2_with (first | (go_at_call 75; refine (rfinite_any z _ HZK.out).mono ?_; rw [HQ.out]; rintro e w1 ⟨rfl, rfl⟩))
        go_ret
        exact ⟨ret_bool (allFin_false zs (k + 1) (by rw [HTK.out, HQ.out]; simp)).symm, rfl⟩
      · have HQ : Hid ((expOf z == 2047) = false) := by show (expOf z == 2047) = false; simpa using he
        clear he
        go_wp2_with (first | (go_at_call 75; refine (rfinite_any z _ HZK.out).mono ?_; rw [HQ.out]; rintro e w1 ⟨rfl, rfl⟩))
        go_round
        case rel => exact ⟨k + 1, by omega, by go_num, by show allFin _ = true; rw [HTK.out, HA.out, HQ.out]; rfl⟩
        case measure => simp [intOf]; omega
    · go_wp2
      go_ret
      exact ⟨ret_bool (allFin_all zs k (by rw [hnl.out]; omega) HA.out).symm, rfl⟩
end Go.Proofs.YtfeojdmffipinaaDoor
