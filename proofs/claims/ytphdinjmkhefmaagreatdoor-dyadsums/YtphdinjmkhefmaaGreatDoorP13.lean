
/- What the document's Rsh (of a number that isn't below 0), compare and Cmp do. -/
import Derived.Test.YtphdinjmkhefmaaGreatDoorP12
import Derived.Deep.QuietTactic
import Derived.Deep.RegionHeld3
namespace Go.Proofs.YtphdinjmkhefmaaGreatDoor
open Go.RowKit Go.IntWalk

set_option maxHeartbeats 1000000 in
theorem Rsh_pos (z x : Nat) (q s : Nat) (L : List Nat) (w : World) (hz : ZOk z w w) (hx : BigAt w x false L) (hs : s < 32) (hq : q ≤ 1000000) (hn : L.length ≤ 1000000) :
    Calls Tryz.prog 46 #[.pointer (some ⟨z, 0, none⟩), .pointer (some ⟨x, 0, none⟩), .int .u64 ((32 * q + s : Nat) : Int)] w fun r w' => r = .returned (.pointer (some ⟨z, 0, none⟩)) ∧ PutIs z false (natL L / 2 ^ (32 * q + s)) L.length w w' := by
  obtain ⟨a, cap, ho, hcap, hm, hd, hc, hneg⟩ := hx
  obtain ⟨c0, c1, hf, hlt⟩ := int_cells ho
  have HL : Hid (Calls Tryz.prog 71 #[.slice a L.length cap, .int .u64 ((32 * q + s : Nat) : Int)] w fun r w1 => ∃ L' a' cap', r = .returned (.slice a' L'.length cap') ∧ Hid (MagIs (natL L / 2 ^ (32 * q + s)) L.length L' a' cap' w1) ∧ Hid (ZOk z w w1)) := by
    refine (right_any L a cap q s w hm hs hq hn hd).mono ?_
    rintro r w1 ⟨⟨L', a', cap', hr, h1⟩, hb1⟩
    exact ⟨L', a', cap', hr, h1, ZOk.below hz hb1⟩
  obtain ⟨v, hv⟩ : ∃ v, Hid (natL L / 2 ^ (32 * q + s) = v) := ⟨_, rfl⟩
  obtain ⟨n, hnl⟩ : ∃ n, Hid (L.length = n) := ⟨_, rfl⟩
  rw [hv.out] at HL ⊢
  rw [hnl.out] at HL c1 hn ⊢
  have HP : Hid (∀ w1 L' a' cap', Hid (ZOk z w w1) → Hid (MagIs v n L' a' cap' w1) → Calls Tryz.prog 66 #[.pointer (some ⟨z, 0, none⟩), .bool false, .slice a' L'.length cap'] w1 fun r w' => r = .returned (.pointer (some ⟨z, 0, none⟩)) ∧ Hid (PutIs z false v n w w')) := by
    intro w1 L' a' cap' h1 h2
    exact put_is z false v n w w1 L' a' cap' h1.out h2.out (by omega)
  obtain ⟨N, hN⟩ : ∃ N : Int, Hid (((32 * q + s : Nat) : Int) = N) := ⟨_, rfl⟩
  rw [hN.out] at HL ⊢
  clear hz hs hq hn hm hd hc hneg ho hcap hf
  go_enter Tryz.func46, Tryz.ntmps46
  go_wp2_with fail
  refine HL.out.mono ?_
  rintro r w1 ⟨L', a', cap', rfl, HM, HZ1⟩
  go_wp2_with fail
  refine (HP.out _ _ _ _ HZ1 HM).mono ?_
  rintro r w2 ⟨rfl, HE⟩
  go_wp2
  go_ret
  exact ⟨rfl, HE.out⟩
/-- How two magnitudes of one length compare, from a place on downwards. -/
def cmpI (a b : Nat) : Int := if a < b then -1 else if b < a then 1 else 0
theorem natL_cmp (A B : List Nat) (hA : DigL A) (k : Nat) (hk : k < A.length) (hk2 : k < B.length) (hhi : A.drop (k + 1) = B.drop (k + 1)) (hl : A.length = B.length) (hlt : A.getD k 0 < B.getD k 0) : natL A < natL B := by
  have e1 := natL_append (A.take (k + 1)) (A.drop (k + 1))
  have e2 := natL_append (B.take (k + 1)) (B.drop (k + 1))
  rw [List.take_append_drop, List.length_take, Nat.min_eq_left (by omega)] at e1 e2
  rw [natL_take_succ A k hk] at e1
  rw [natL_take_succ B k hk2] at e2
  rw [hhi] at e1
  have h1 := natL_lt (A.take k) (hA.take k)
  rw [List.length_take, Nat.min_eq_left (by omega)] at h1
  have h2 : 4294967296 ^ k * (A.getD k 0 + 1) ≤ 4294967296 ^ k * B.getD k 0 := Nat.mul_le_mul_left _ hlt
  rw [Nat.mul_add, Nat.mul_one] at h2
  omega
theorem natL_shorter (A B : List Nat) (hA : DigL A) (hB : CanL B) (hl : A.length < B.length) : natL A < natL B := by
  have h1 := natL_lt A hA
  have h2 := natL_ge B (fun c => by rw [c] at hl; exact absurd hl (Nat.not_lt_zero _)) hB
  have h3 : 4294967296 ^ A.length ≤ 4294967296 ^ (B.length - 1) := Nat.pow_le_pow_right (by decide) (by omega)
  omega
theorem cmpI_lt {a b : Nat} (h : a < b) : cmpI a b = -1 := if_pos h
theorem cmpI_gt {a b : Nat} (h : b < a) : cmpI a b = 1 := by unfold cmpI; rw [if_neg (by omega), if_pos h]
theorem cmpI_eq {a b : Nat} (h : a = b) : cmpI a b = 0 := by unfold cmpI; rw [if_neg (by omega), if_neg (by omega)]
theorem drop_step (A B : List Nat) (k : Nat) (hA : k < A.length) (hB : k < B.length) (h : A.drop (k + 1) = B.drop (k + 1)) (e : A.getD k 0 = B.getD k 0) : A.drop k = B.drop k := by
  rw [List.drop_eq_getElem_cons hA, List.drop_eq_getElem_cons hB, h]
  congr 1
  simpa [List.getD, hA, hB] using e
set_option maxHeartbeats 1000000 in
theorem bcompare_nil (a b : Option Addr) (ca cb : Nat) (w : World) :
    Calls Tryz.prog 88 #[.slice a 0 ca, .slice b 0 cb] w fun r w' => r = .returned (.int .i64 0) ∧ w' = w := by
  go_enter Tryz.func88, Tryz.ntmps88
  go_wp2
  refine wp_loop_rounds 1 ?_
  rw [rounds_succ]
  go_wp2
  go_ret
  exact ⟨rfl, rfl⟩
set_option maxHeartbeats 1000000 in
theorem bcompare_same (A B : List Nat) (ba oa bb ob ca cb n : Nat) (w : World) (hA : ∀ i, i < n → w.cell? ⟨ba, oa + i, none⟩ = some (.int .u32 (A.getD i 0))) (hB : ∀ i, i < n → w.cell? ⟨bb, ob + i, none⟩ = some (.int .u32 (B.getD i 0))) (dA : DigL A) (dB : DigL B) (hnA : A.length = n) (hnB : B.length = n) (hn : n ≤ 1000000) :
    Calls Tryz.prog 88 #[.slice (some ⟨ba, oa, none⟩) n ca, .slice (some ⟨bb, ob, none⟩) n cb] w fun r w' => r = .returned (.int .i64 (cmpI (natL A) (natL B))) ∧ Below w.heap.size w w' := by
  have HA := hid hA
  have HB := hid hB
  have HNA := hid hnA
  have HNB := hid hnB
  have HD : Hid (A.drop n = B.drop n) := by
    show A.drop n = B.drop n
    rw [List.drop_eq_nil_of_le (by omega), List.drop_eq_nil_of_le (by omega)]
  obtain ⟨c, hc⟩ : ∃ c, Hid (cmpI (natL A) (natL B) = c) := ⟨_, rfl⟩
  rw [hc.out]
  clear hA hB hnA hnB
  go_enter Tryz.func88, Tryz.ntmps88
  go_wp2
  go_loopw [5] (fun i wr => ∃ (j : Nat), j ≤ n ∧ i = .int .i64 ((j : Int) - 1) ∧ Hid (A.drop j = B.drop j) ∧ Hid (Below w.heap.size w wr)) (fun i _ => (intOf i + 1).toNat)
  case atStart => exact ⟨n, Nat.le_refl _, rfl, HD, Below.refl _ _⟩
  case round =>
    obtain ⟨j, hj, rfl, HE, HBW⟩ := hrel
    by_cases hj0 : j = 0
    · subst hj0
      have hcz : c = 0 := by
        rw [← hc.out]
        have := HE.out
        rw [List.drop_zero, List.drop_zero] at this
        exact cmpI_eq (by rw [this])
      subst hcz
      go_wp2
      go_ret
      exact ⟨rfl, HBW.out⟩
    · obtain ⟨k, rfl⟩ : ∃ k, j = k + 1 := ⟨j - 1, by omega⟩
      have hk1 : ((k + 1 : Nat) : Int) - 1 = (k : Int) := by omega
      have hkI : (k : Int) < (n : Int) := by omega
      have hca : wr.cell? ⟨ba, oa + k, none⟩ = some (.int .u32 (A.getD k 0)) := by
        rw [HBW.out.cell (p := ⟨ba, oa + k, none⟩) (World.block_lt_of_cell? w _ (HA.out k (by omega)))]
        exact HA.out k (by omega)
      have hcb : wr.cell? ⟨bb, ob + k, none⟩ = some (.int .u32 (B.getD k 0)) := by
        rw [HBW.out.cell (p := ⟨bb, ob + k, none⟩) (World.block_lt_of_cell? w _ (HB.out k (by omega)))]
        exact HB.out k (by omega)
      have hcmp := natL_cmp A B dA k (by rw [HNA.out]; omega) (by rw [HNB.out]; omega) HE.out (by rw [HNA.out, HNB.out])
      have hcmp2 := natL_cmp B A dB k (by rw [HNB.out]; omega) (by rw [HNA.out]; omega) HE.out.symm (by rw [HNA.out, HNB.out])
      have hstep := drop_step A B k (by rw [HNA.out]; omega) (by rw [HNB.out]; omega) HE.out
      have hC := hc.out
      obtain ⟨x, hx⟩ : ∃ x, Hid (A.getD k 0 = x) := ⟨_, rfl⟩
      obtain ⟨y, hy⟩ : ∃ y, Hid (B.getD k 0 = y) := ⟨_, rfl⟩
      rw [hx.out] at hca hcmp hcmp2 hstep
      rw [hy.out] at hcb hcmp hcmp2 hstep
      rw [hk1]
      rcases Nat.lt_trichotomy x y with h | h | h
      · rw [cmpI_lt (hcmp h)] at hC
        subst hC
        have hI : (x : Int) < (y : Int) := by omega
        clear hcmp hcmp2 hstep h HE hk1
        go_wp2_with fail
        go_quiet (fail)
        go_wp2
        go_ret
        refine ⟨rfl, ?_⟩
        repeat (first | exact HBW.out | refine bl_drewN _ ?_ | refine Below.drew ?_)
      · subst h
        have HS := hid (hstep rfl)
        have hI : ¬ (x : Int) < (x : Int) := by omega
        clear hcmp hcmp2 hstep HE hC
        go_wp2_with fail
        go_quiet (fail)
        go_wp2_with fail
        go_quiet (fail)
        go_wp2
        refine ⟨⟨k, by omega, rfl, HS, ?_⟩, by simp [intOf]⟩
        repeat (first | exact HBW.out | refine bl_drewN _ ?_ | refine Below.drew ?_)
      · rw [cmpI_gt (hcmp2 h)] at hC
        subst hC
        have hI : (y : Int) < (x : Int) := by omega
        have hI2 : ¬ (x : Int) < (y : Int) := by omega
        clear hcmp hcmp2 hstep h HE hk1
        go_wp2_with fail
        go_quiet (fail)
        go_wp2_with fail
        go_quiet (fail)
        go_wp2
        go_ret
        refine ⟨rfl, ?_⟩
        repeat (first | exact HBW.out | refine bl_drewN _ ?_ | refine Below.drew ?_)
set_option maxHeartbeats 1000000 in
theorem bcompare_any (A B : List Nat) (a b : Option Addr) (ca cb : Nat) (w : World) (hA : MagAt w a A) (hB : MagAt w b B) (dA : DigL A) (dB : DigL B) (cA : CanL A) (cB : CanL B) (hnA : A.length ≤ 1000000) (hnB : B.length ≤ 1000000) :
    Calls Tryz.prog 88 #[.slice a A.length ca, .slice b B.length cb] w fun r w' => r = .returned (.int .i64 (cmpI (natL A) (natL B))) ∧ Below w.heap.size w w' := by
  by_cases hl : A.length = B.length
  · by_cases h0 : B.length = 0
    · rw [hl, h0, cmpI_eq (by rw [List.length_eq_zero_iff.1 h0, List.length_eq_zero_iff.1 (hl.trans h0)])]
      refine (bcompare_nil a b ca cb w).mono ?_
      rintro r w' ⟨rfl, rfl⟩
      exact ⟨rfl, Below.refl _ _⟩
    · obtain ⟨ba, oa, rfl, _, _⟩ := hA 0 (by omega)
      obtain ⟨bb, ob, rfl, _, _⟩ := hB 0 (by omega)
      rw [hl]
      refine bcompare_same A B ba oa bb ob ca cb B.length w (fun i hi => ?_) (fun i hi => ?_) dA dB hl rfl hnB
      · obtain ⟨b', off', e, _, hc⟩ := hA i (by omega)
        cases e
        exact hc
      · obtain ⟨b', off', e, _, hc⟩ := hB i (by omega)
        cases e
        exact hc
  · obtain ⟨n, hn⟩ : ∃ n, Hid (A.length = n) := ⟨_, rfl⟩
    obtain ⟨m, hm⟩ : ∃ m, Hid (B.length = m) := ⟨_, rfl⟩
    by_cases hlt : A.length < B.length
    · rw [cmpI_lt (natL_shorter A B dA cB hlt)]
      rw [hn.out, hm.out] at hl hlt ⊢
      have hne : ((n : Int) == (m : Int)) = false := by simp; omega
      have hltI : (n : Int) < (m : Int) := by omega
      clear hA hB dA dB cA cB hnA hnB hl hlt
      go_enter Tryz.func88, Tryz.ntmps88
      go_wp2
      go_ret
      exact ⟨rfl, Below.refl _ _⟩
    · rw [cmpI_gt (natL_shorter B A dB cA (by omega))]
      rw [hn.out, hm.out] at hl hlt ⊢
      have hne : ((n : Int) == (m : Int)) = false := by simp; omega
      have hltI : ¬ (n : Int) < (m : Int) := by omega
      clear hA hB dA dB cA cB hnA hnB hl hlt
      go_enter Tryz.func88, Tryz.ntmps88
      go_wp2
      go_ret
      exact ⟨rfl, Below.refl _ _⟩
/-- The whole number that lies there. -/
def intL (neg : Bool) (L : List Nat) : Int := if neg = true then -(natL L : Int) else natL L
def cmpZ (a b : Int) : Int := if a < b then -1 else if b < a then 1 else 0
theorem cmpZ_pos (a b : Nat) : cmpZ (a : Int) (b : Int) = cmpI a b := by
  unfold cmpZ cmpI
  split <;> split <;> (try split) <;> (try split) <;> omega
theorem cmpZ_neg (a b : Nat) : cmpZ (-(a : Int)) (-(b : Int)) = -cmpI a b := by
  unfold cmpZ cmpI
  split <;> split <;> (try split) <;> (try split) <;> omega
theorem neg_pos {neg : Bool} {L : List Nat} (hc : CanL L) (h : L = [] → neg = false) (hn : neg = true) : 0 < natL L := by
  have h1 : natL L ≠ 0 := fun c => by
    have := h ((natL_zero L hc).1 c)
    rw [hn] at this
    exact Bool.noConfusion this
  omega
end Go.Proofs.YtphdinjmkhefmaaGreatDoor
