
/- What the document's Rsh (of a number that isn't below 0), compare and Cmp do. -/
import Derived.Test.YtehnkgonhgjeiaaGreatDoorP6
import Derived.Deep.QuietTactic
import Derived.Deep.RegionHeld3
namespace Go.Proofs.YtehnkgonhgjeiaaGreatDoor
open Go.RowKit Go.IntWalk

set_option maxHeartbeats 1000000 in
theorem Rsh_pos (z x : Nat) (q s : Nat) (L : List Nat) (w : World) (hz : ZOk z w w) (hx : BigAt w x false L) (hs : s < 32) (hq : q ≤ 1000000) (hn : L.length ≤ 1000000) :
    Calls Tryz.prog 72 #[.pointer (some ⟨z, 0, none⟩), .pointer (some ⟨x, 0, none⟩), .int .u64 ((32 * q + s : Nat) : Int)] w fun r w' => r = .returned (.pointer (some ⟨z, 0, none⟩)) ∧ PutIs z false (natL L / 2 ^ (32 * q + s)) L.length w w' := by
  obtain ⟨a, cap, ho, hcap, hm, hd, hc, hneg⟩ := hx
  obtain ⟨c0, c1, hf, hlt⟩ := int_cells ho
  have HL : Hid (Calls Tryz.prog 120 #[.slice a L.length cap, .int .u64 ((32 * q + s : Nat) : Int)] w fun r w1 => ∃ L' a' cap', r = .returned (.slice a' L'.length cap') ∧ Hid (MagIs (natL L / 2 ^ (32 * q + s)) L.length L' a' cap' w1) ∧ Hid (ZOk z w w1)) := by
    refine (right_any L a cap q s w hm hs hq hn hd).mono ?_
    rintro r w1 ⟨⟨L', a', cap', hr, h1⟩, hb1⟩
    exact ⟨L', a', cap', hr, h1, ZOk.below hz hb1⟩
  obtain ⟨v, hv⟩ : ∃ v, Hid (natL L / 2 ^ (32 * q + s) = v) := ⟨_, rfl⟩
  obtain ⟨n, hnl⟩ : ∃ n, Hid (L.length = n) := ⟨_, rfl⟩
  rw [hv.out] at HL ⊢
  rw [hnl.out] at HL c1 hn ⊢
  have HP : Hid (∀ w1 L' a' cap', Hid (ZOk z w w1) → Hid (MagIs v n L' a' cap' w1) → Calls Tryz.prog 119 #[.pointer (some ⟨z, 0, none⟩), .bool false, .slice a' L'.length cap'] w1 fun r w' => r = .returned (.pointer (some ⟨z, 0, none⟩)) ∧ Hid (PutIs z false v n w w')) := by
    intro w1 L' a' cap' h1 h2
    exact put_is z false v n w w1 L' a' cap' h1.out h2.out (by omega)
  obtain ⟨N, hN⟩ : ∃ N : Int, Hid (((32 * q + s : Nat) : Int) = N) := ⟨_, rfl⟩
  rw [hN.out] at HL ⊢
  clear hz hs hq hn hm hd hc hneg ho hcap hf
  go_enter Tryz.func72, Tryz.ntmps72
  go_wp2_with fail
  refine HL.out.mono ?_
  rintro r w1 ⟨L', a', cap', rfl, HM, HZ1⟩
  go_wp2_with fail
  refine (HP.out _ _ _ _ HZ1 HM).mono ?_
  rintro r w2 ⟨rfl, HE⟩
  go_wp2
  go_ret
  exact ⟨rfl, HE.out⟩
/-- How two magnitudes of one length compare, from a place on downwards. -/
def cmpI (a b : Nat) : Int := if a < b then -1 else if b < a then 1 else 0
theorem natL_cmp (A B : List Nat) (hA : DigL A) (k : Nat) (hk : k < A.length) (hk2 : k < B.length) (hhi : A.drop (k + 1) = B.drop (k + 1)) (hl : A.length = B.length) (hlt : A.getD k 0 < B.getD k 0) : natL A < natL B := by
  have e1 := natL_append (A.take (k + 1)) (A.drop (k + 1))
  have e2 := natL_append (B.take (k + 1)) (B.drop (k + 1))
  rw [List.take_append_drop, List.length_take, Nat.min_eq_left (by omega)] at e1 e2
  rw [natL_take_succ A k hk] at e1
  rw [natL_take_succ B k hk2] at e2
  rw [hhi] at e1
  have h1 := natL_lt (A.take k) (hA.take k)
  rw [List.length_take, Nat.min_eq_left (by omega)] at h1
  have h2 : 4294967296 ^ k * (A.getD k 0 + 1) ≤ 4294967296 ^ k * B.getD k 0 := Nat.mul_le_mul_left _ hlt
  rw [Nat.mul_add, Nat.mul_one] at h2
  omega
theorem natL_shorter (A B : List Nat) (hA : DigL A) (hB : CanL B) (hl : A.length < B.length) : natL A < natL B := by
  have h1 := natL_lt A hA
  have h2 := natL_ge B (fun c => by rw [c] at hl; exact absurd hl (Nat.not_lt_zero _)) hB
  have h3 : 4294967296 ^ A.length ≤ 4294967296 ^ (B.length - 1) := Nat.pow_le_pow_right (by decide) (by omega)
  omega
theorem cmpI_lt {a b : Nat} (h : a < b) : cmpI a b = -1 := if_pos h
theorem cmpI_gt {a b : Nat} (h : b < a) : cmpI a b = 1 := by unfold cmpI; rw [if_neg (by omega), if_pos h]
theorem cmpI_eq {a b : Nat} (h : a = b) : cmpI a b = 0 := by unfold cmpI; rw [if_neg (by omega), if_neg (by omega)]
theorem drop_step (A B : List Nat) (k : Nat) (hA : k < A.length) (hB : k < B.length) (h : A.drop (k + 1) = B.drop (k + 1)) (e : A.getD k 0 = B.getD k 0) : A.drop k = B.drop k := by
  rw [List.drop_eq_getElem_cons hA, List.drop_eq_getElem_cons hB, h]
  congr 1
  simpa [List.getD, hA, hB] using e
set_option maxHeartbeats 1000000 in
theorem bcompare_nil (a b : Option Addr) (ca cb : Nat) (w : World) :
    Calls Tryz.prog 162 #[.slice a 0 ca, .slice b 0 cb] w fun r w' => r = .returned (.int .i64 0) ∧ w' = w := by
  go_enter Tryz.func162, Tryz.ntmps162
  go_wp2
  refine wp_loop_rounds 1 ?_
  rw [rounds_succ]
  go_wp2
  go_ret
  exact ⟨rfl, rfl⟩
set_option maxHeartbeats 1000000 in
theorem bcompare_same (A B : List Nat) (ba oa bb ob ca cb n : Nat) (w : World) (hA : ∀ i, i < n → w.cell? ⟨ba, oa + i, none⟩ = some (.int .u32 (A.getD i 0))) (hB : ∀ i, i < n → w.cell? ⟨bb, ob + i, none⟩ = some (.int .u32 (B.getD i 0))) (dA : DigL A) (dB : DigL B) (hnA : A.length = n) (hnB : B.length = n) (hn : n ≤ 1000000) :
    Calls Tryz.prog 162 #[.slice (some ⟨ba, oa, none⟩) n ca, .slice (some ⟨bb, ob, none⟩) n cb] w fun r w' => r = .returned (.int .i64 (cmpI (natL A) (natL B))) ∧ Below w.heap.size w w' := by
  have HA := hid hA
  have HB := hid hB
  have HNA := hid hnA
  have HNB := hid hnB
  have HD : Hid (A.drop n = B.drop n) := by
    show A.drop n = B.drop n
    rw [List.drop_eq_nil_of_le (by omega), List.drop_eq_nil_of_le (by omega)]
  obtain ⟨c, hc⟩ : ∃ c, Hid (cmpI (natL A) (natL B) = c) := ⟨_, rfl⟩
  rw [hc.out]
  clear hA hB hnA hnB
  go_enter Tryz.func162, Tryz.ntmps162
  go_wp2
  go_loopw [5] (fun i wr => ∃ (j : Nat), j ≤ n ∧ i = .int .i64 ((j : Int) - 1) ∧ Hid (A.drop j = B.drop j) ∧ Hid (Below w.heap.size w wr)) (fun i _ => (intOf i + 1).toNat)
  case atStart => exact ⟨n, Nat.le_refl _, rfl, HD, Below.refl _ _⟩
  case round =>
    obtain ⟨j, hj, rfl, HE, HBW⟩ := hrel
    by_cases hj0 : j = 0
    · subst hj0
      have hcz : c = 0 := by
        rw [← hc.out]
        have := HE.out
        rw [List.drop_zero, List.drop_zero] at this
        exact cmpI_eq (by rw [this])
      subst hcz
      go_wp2
      go_ret
      exact ⟨rfl, HBW.out⟩
    · obtain ⟨k, rfl⟩ : ∃ k, j = k + 1 := ⟨j - 1, by omega⟩
      have hk1 : ((k + 1 : Nat) : Int) - 1 = (k : Int) := by omega
      have hkI : (k : Int) < (n : Int) := by omega
      have hca : wr.cell? ⟨ba, oa + k, none⟩ = some (.int .u32 (A.getD k 0)) := by
        rw [HBW.out.cell (p := ⟨ba, oa + k, none⟩) (World.block_lt_of_cell? w _ (HA.out k (by omega)))]
        exact HA.out k (by omega)
      have hcb : wr.cell? ⟨bb, ob + k, none⟩ = some (.int .u32 (B.getD k 0)) := by
        rw [HBW.out.cell (p := ⟨bb, ob + k, none⟩) (World.block_lt_of_cell? w _ (HB.out k (by omega)))]
        exact HB.out k (by omega)
      have hcmp := natL_cmp A B dA k (by rw [HNA.out]; omega) (by rw [HNB.out]; omega) HE.out (by rw [HNA.out, HNB.out])
      have hcmp2 := natL_cmp B A dB k (by rw [HNB.out]; omega) (by rw [HNA.out]; omega) HE.out.symm (by rw [HNA.out, HNB.out])
      have hstep := drop_step A B k (by rw [HNA.out]; omega) (by rw [HNB.out]; omega) HE.out
      have hC := hc.out
      obtain ⟨x, hx⟩ : ∃ x, Hid (A.getD k 0 = x) := ⟨_, rfl⟩
      obtain ⟨y, hy⟩ : ∃ y, Hid (B.getD k 0 = y) := ⟨_, rfl⟩
      rw [hx.out] at hca hcmp hcmp2 hstep
      rw [hy.out] at hcb hcmp hcmp2 hstep
      rw [hk1]
      rcases Nat.lt_trichotomy x y with h | h | h
      · rw [cmpI_lt (hcmp h)] at hC
        subst hC
        have hI : (x : Int) < (y : Int) := by omega
        clear hcmp hcmp2 hstep h HE hk1
        go_wp2_with fail
        go_quiet (fail)
        go_wp2
        go_ret
        refine ⟨rfl, ?_⟩
        repeat (first | exact HBW.out | refine bl_drewN _ ?_ | refine Below.drew ?_)
      · subst h
        have HS := hid (hstep rfl)
        have hI : ¬ (x : Int) < (x : Int) := by omega
        clear hcmp hcmp2 hstep HE hC
        go_wp2_with fail
        go_quiet (fail)
        go_wp2_with fail
        go_quiet (fail)
        go_wp2
        refine ⟨⟨k, by omega, rfl, HS, ?_⟩, by simp [intOf]⟩
        repeat (first | exact HBW.out | refine bl_drewN _ ?_ | refine Below.drew ?_)
      · rw [cmpI_gt (hcmp2 h)] at hC
        subst hC
        have hI : (y : Int) < (x : Int) := by omega
        have hI2 : ¬ (x : Int) < (y : Int) := by omega
        clear hcmp hcmp2 hstep h HE hk1
        go_wp2_with fail
        go_quiet (fail)
        go_wp2_with fail
        go_quiet (fail)
        go_wp2
        go_ret
        refine ⟨rfl, ?_⟩
        repeat (first | exact HBW.out | refine bl_drewN _ ?_ | refine Below.drew ?_)
set_option maxHeartbeats 1000000 in
theorem bcompare_any (A B : List Nat) (a b : Option Addr) (ca cb : Nat) (w : World) (hA : MagAt w a A) (hB : MagAt w b B) (dA : DigL A) (dB : DigL B) (cA : CanL A) (cB : CanL B) (hnA : A.length ≤ 1000000) (hnB : B.length ≤ 1000000) :
    Calls Tryz.prog 162 #[.slice a A.length ca, .slice b B.length cb] w fun r w' => r = .returned (.int .i64 (cmpI (natL A) (natL B))) ∧ Below w.heap.size w w' := by
  by_cases hl : A.length = B.length
  · by_cases h0 : B.length = 0
    · rw [hl, h0, cmpI_eq (by rw [List.length_eq_zero_iff.1 h0, List.length_eq_zero_iff.1 (hl.trans h0)])]
      refine (bcompare_nil a b ca cb w).mono ?_
      rintro r w' ⟨rfl, rfl⟩
      exact ⟨rfl, Below.refl _ _⟩
    · obtain ⟨ba, oa, rfl, _, _⟩ := hA 0 (by omega)
      obtain ⟨bb, ob, rfl, _, _⟩ := hB 0 (by omega)
      rw [hl]
      refine bcompare_same A B ba oa bb ob ca cb B.length w (fun i hi => ?_) (fun i hi => ?_) dA dB hl rfl hnB
      · obtain ⟨b', off', e, _, hc⟩ := hA i (by omega)
        cases e
        exact hc
      · obtain ⟨b', off', e, _, hc⟩ := hB i (by omega)
        cases e
        exact hc
  · obtain ⟨n, hn⟩ : ∃ n, Hid (A.length = n) := ⟨_, rfl⟩
    obtain ⟨m, hm⟩ : ∃ m, Hid (B.length = m) := ⟨_, rfl⟩
    by_cases hlt : A.length < B.length
    · rw [cmpI_lt (natL_shorter A B dA cB hlt)]
      rw [hn.out, hm.out] at hl hlt ⊢
      have hne : ((n : Int) == (m : Int)) = false := by simp; omega
      have hltI : (n : Int) < (m : Int) := by omega
      clear hA hB dA dB cA cB hnA hnB hl hlt
      go_enter Tryz.func162, Tryz.ntmps162
      go_wp2
      go_ret
      exact ⟨rfl, Below.refl _ _⟩
    · rw [cmpI_gt (natL_shorter B A dB cA (by omega))]
      rw [hn.out, hm.out] at hl hlt ⊢
      have hne : ((n : Int) == (m : Int)) = false := by simp; omega
      have hltI : ¬ (n : Int) < (m : Int) := by omega
      clear hA hB dA dB cA cB hnA hnB hl hlt
      go_enter Tryz.func162, Tryz.ntmps162
      go_wp2
      go_ret
      exact ⟨rfl, Below.refl _ _⟩
/-- The whole number that lies there. -/
def intL (neg : Bool) (L : List Nat) : Int := if neg = true then -(natL L : Int) else natL L
def cmpZ (a b : Int) : Int := if a < b then -1 else if b < a then 1 else 0
theorem cmpZ_pos (a b : Nat) : cmpZ (a : Int) (b : Int) = cmpI a b := by
  unfold cmpZ cmpI
  split <;> split <;> (try split) <;> (try split) <;> omega
theorem cmpZ_neg (a b : Nat) : cmpZ (-(a : Int)) (-(b : Int)) = -cmpI a b := by
  unfold cmpZ cmpI
  split <;> split <;> (try split) <;> (try split) <;> omega
theorem neg_pos {neg : Bool} {L : List Nat} (hc : CanL L) (h : L = [] → neg = false) (hn : neg = true) : 0 < natL L := by
  have h1 : natL L ≠ 0 := fun c => by
    have := h ((natL_zero L hc).1 c)
    rw [hn] at this
    exact Bool.noConfusion this
  omega
set_option maxHeartbeats 1000000 in
theorem Cmp_any (z x : Nat) (n1 n2 : Bool) (A B : List Nat) (w : World) (hz : BigAt w z n1 A) (hx : BigAt w x n2 B) (hA : A.length ≤ 1000000) (hB : B.length ≤ 1000000) :
    Calls Tryz.prog 164 #[.pointer (some ⟨z, 0, none⟩), .pointer (some ⟨x, 0, none⟩)] w fun r w' => r = .returned (.int .i64 (cmpZ (intL n1 A) (intL n2 B))) ∧ Below w.heap.size w w' := by
  obtain ⟨a, ca, ho, hcap, hm, hd, hc, hneg⟩ := hz
  obtain ⟨c0, c1, hf, hlt⟩ := int_cells ho
  obtain ⟨b, cb, ho', hcap', hm', hd', hc', hneg'⟩ := hx
  obtain ⟨c0', c1', hf', hlt'⟩ := int_cells ho'
  have HC : Hid (∀ w', Below w.heap.size w w' → Calls Tryz.prog 162 #[.slice a A.length ca, .slice b B.length cb] w' fun r w'' => r = .returned (.int .i64 (cmpI (natL A) (natL B))) ∧ Below w.heap.size w w'') := by
    intro w' hb
    refine (bcompare_any A B a b ca cb w' (hm.but (But.of_below (z := w.heap.size) hb) ?_) (hm'.but (But.of_below (z := w.heap.size) hb) ?_) hd hd' hc hc' hA hB).mono ?_
    · intro b1 off1 e h0 hbz
      obtain ⟨b2, off2, e2, hlt2, _⟩ := hm 0 (by omega)
      rw [e] at e2
      cases e2
      omega
    · intro b1 off1 e h0 hbz
      obtain ⟨b2, off2, e2, hlt2, _⟩ := hm' 0 (by omega)
      rw [e] at e2
      cases e2
      omega
    · rintro r w'' ⟨rfl, hb2⟩
      exact ⟨rfl, bl_then hb hb2⟩
  have HV : Hid (cmpZ (intL n1 A) (intL n2 B) = if n1 = n2 then (if n1 = true then -cmpI (natL A) (natL B) else cmpI (natL A) (natL B)) else if n1 = true then -1 else 1) := by
    unfold intL
    cases n1 <;> cases n2
    · exact cmpZ_pos _ _
    · have := neg_pos hc' hneg' rfl
      show cmpZ (natL A : Int) (-(natL B : Int)) = 1
      unfold cmpZ
      rw [if_neg (by omega), if_pos (by omega)]
    · have := neg_pos hc hneg rfl
      show cmpZ (-(natL A : Int)) (natL B : Int) = -1
      unfold cmpZ
      rw [if_pos (by omega)]
    · exact cmpZ_neg _ _
  rw [HV.out]
  have hr : -1 ≤ cmpI (natL A) (natL B) ∧ cmpI (natL A) (natL B) ≤ 1 := by unfold cmpI; split <;> (try split) <;> omega
  obtain ⟨c, hcc⟩ : ∃ c, Hid (cmpI (natL A) (natL B) = c) := ⟨_, rfl⟩
  rw [hcc.out] at HC hr ⊢
  obtain ⟨k, hk⟩ : ∃ k, Hid (A.length = k) := ⟨_, rfl⟩
  obtain ⟨l, hl⟩ : ∃ l, Hid (B.length = l) := ⟨_, rfl⟩
  rw [hk.out] at HC c1
  rw [hl.out] at HC c1'
  clear hA hB hm hm' hd hd' hc hc' hneg hneg' ho ho' hcap hcap' hf hf' HV
  have HK : Hid (∀ w', Hid (Below w.heap.size w w') → (w'.cell? ⟨z, 0, none⟩ = some (.bool n1) ∧ w'.cell? ⟨z, 1, none⟩ = some (.slice a k ca) ∧ w'.cell? ⟨x, 1, none⟩ = some (.slice b l cb)) ∧ Hid (Below w.heap.size w w')) := fun w' h => ⟨⟨by rw [h.out.cell (p := ⟨z, 0, none⟩) hlt]; exact c0, by rw [h.out.cell (p := ⟨z, 1, none⟩) hlt]; exact c1, by rw [h.out.cell (p := ⟨x, 1, none⟩) hlt']; exact c1'⟩, h⟩
  have HQ : Hid (∀ m, Hid (Below w.heap.size w ((w.drewN m).drew))) := fun m => Below.drew (bl_drewN _ (Below.refl _ _))
  have hwr : IntKind.i64.wrap (-c) = -c := by rw [IntWalk.i64_in _ (by omega)]
  have HC2 : Hid (∀ w', Hid (Below w.heap.size w w') → Calls Tryz.prog 162 #[.slice a k ca, .slice b l cb] w' fun r w'' => r = .returned (.int .i64 c) ∧ Hid (Below w.heap.size w w'')) := fun w' h => HC.out w' h.out
  clear HC hr
  cases n1 <;> cases n2
  all_goals
    go_enter Tryz.func164, Tryz.ntmps164
    go_wp2_with fail
    go_quiet (fail)
    go_wp2_with fail
  · go_region_held3 (fun w' => (w'.cell? ⟨z, 0, none⟩ = some (.bool false) ∧ w'.cell? ⟨z, 1, none⟩ = some (.slice a k ca) ∧ w'.cell? ⟨x, 1, none⟩ = some (.slice b l cb)) ∧ Hid (Below w.heap.size w w')) (exact HK.out _ (by first | assumption | exact HQ.out _))
      (first | (go_at_call 162; refine (HC2.out _ (And.right (by assumption))).mono ?_; rintro r w1 ⟨rfl, HB1⟩))
    obtain ⟨⟨k0, _, _⟩, _⟩ := ‹_ ∧ Hid (Below w.heap.size w w1)›
    all_goals go_wp2
    all_goals go_ret
    all_goals exact ⟨rfl, Hid.out (by assumption)⟩
  · go_ret
    exact ⟨rfl, bl_drewN _ (Below.refl _ _)⟩
  · go_ret
    exact ⟨rfl, bl_drewN _ (Below.refl _ _)⟩
  · go_region_held3 (fun w' => (w'.cell? ⟨z, 0, none⟩ = some (.bool true) ∧ w'.cell? ⟨z, 1, none⟩ = some (.slice a k ca) ∧ w'.cell? ⟨x, 1, none⟩ = some (.slice b l cb)) ∧ Hid (Below w.heap.size w w')) (exact HK.out _ (by first | assumption | exact HQ.out _))
      (first | (go_at_call 162; refine (HC2.out _ (And.right (by assumption))).mono ?_; rintro r w1 ⟨rfl, HB1⟩))
    obtain ⟨⟨k0, _, _⟩, _⟩ := ‹_ ∧ Hid (Below w.heap.size w w1)›
    all_goals go_wp2
    all_goals go_ret
    all_goals exact ⟨rfl, Hid.out (by assumption)⟩
end Go.Proofs.YtehnkgonhgjeiaaGreatDoor

namespace Go.Proofs.YtehnkgonhgjeiaaGreatDoor
open Go

/-- An odd number with some twos is another with some: what they have in common. -/
theorem odd_shift (i z : Int) (t u : Nat) (hi : i % 2 = 1) (h : i * 2 ^ t = z * 2 ^ u) : ∃ k, t = u + k ∧ z = i * 2 ^ k := by
  have hp : ∀ n : Nat, (2 : Int) ^ n ≠ 0 := fun n => by
    have : (0 : Int) < 2 ^ n := Int.pow_pos (by decide)
    omega
  by_cases c : t < u
  · obtain ⟨d, hd⟩ : ∃ d, u = t + (d + 1) := ⟨u - t - 1, by omega⟩
    rw [hd, Int.pow_add, Int.mul_comm (2 ^ t), ← Int.mul_assoc] at h
    have h2 := Int.eq_of_mul_eq_mul_right (hp t) h
    rw [Int.pow_succ, ← Int.mul_assoc] at h2
    omega
  · obtain ⟨k, hk⟩ : ∃ k, t = u + k := ⟨t - u, by omega⟩
    refine ⟨k, hk, ?_⟩
    rw [hk, Int.pow_add, Int.mul_comm (2 ^ u), ← Int.mul_assoc] at h
    exact (Int.eq_of_mul_eq_mul_right (hp u) h).symm
theorem odd_same (i j : Int) (t u : Nat) (hi : i % 2 = 1) (hj : j % 2 = 1) (h : i * 2 ^ t = j * 2 ^ u) : t = u ∧ i = j := by
  obtain ⟨k, h1, h2⟩ := odd_shift i j t u hi h
  obtain ⟨l, h3, h4⟩ := odd_shift j i u t hj h.symm
  have hk : k = 0 := by omega
  rw [hk] at h1 h2
  exact ⟨h1, by rw [h2, Int.pow_zero, Int.mul_one]⟩
theorem DigL.drop {L : List Nat} (h : DigL L) (k : Nat) : DigL (L.drop k) := fun d hd => h d (List.mem_of_mem_drop hd)
/-- A list of words without noughts at its end is told by its value. -/
theorem natL_inj : ∀ (A B : List Nat), DigL A → DigL B → A.length = B.length → natL A = natL B → A = B
  | [], [], _, _, _, _ => rfl
  | [], _ :: _, _, _, h, _ => by simp at h
  | _ :: _, [], _, _, h, _ => by simp at h
  | a :: A, b :: B, hA, hB, hl, h => by
    have h1 := hA a (List.mem_cons_self ..)
    have h2 := hB b (List.mem_cons_self ..)
    have e : a + 4294967296 * natL A = b + 4294967296 * natL B := h
    have hab : a = b := by omega
    have hr : natL A = natL B := by omega
    rw [hab, natL_inj A B (fun d hd => hA d (List.mem_cons_of_mem _ hd)) (fun d hd => hB d (List.mem_cons_of_mem _ hd)) (by simpa using hl) hr]
theorem natL_uniq (A B : List Nat) (hA : DigL A) (hB : DigL B) (cA : CanL A) (cB : CanL B) (h : natL A = natL B) : A = B := by
  apply natL_inj A B hA hB _ h
  rcases Nat.lt_trichotomy A.length B.length with c | c | c
  · have := natL_shorter A B hA cB c; omega
  · exact c
  · have := natL_shorter B A hB cA c; omega
theorem natL_mod (L : List Nat) : natL L % 2 = L.getD 0 0 % 2 := by
  cases L with
  | nil => rfl
  | cons d t => show (d + 4294967296 * natL t) % 2 = d % 2; omega
theorem intL_odd (neg : Bool) (L : List Nat) (h : natL L % 2 = 1) : intL neg L % 2 = 1 := by
  unfold intL
  cases neg
  · rw [if_neg (by decide)]; omega
  · rw [if_pos rfl]; omega
/-- What a dyad stands for: its sign, its words, its exponent; z * 2^e. -/
def DyV (neg : Bool) (L : List Nat) (e' : Int) (z e : Int) : Prop :=
  DigL L ∧ CanL L ∧ ((z = 0 ∧ L = [] ∧ neg = false ∧ e' = 0) ∨ (natL L % 2 = 1 ∧ ∃ k : Nat, intL neg L * 2 ^ k = z ∧ e' = e + k))
theorem DyV.uniq {n1 n2 : Bool} {L1 L2 : List Nat} {e1 e2 z e : Int} (h1 : DyV n1 L1 e1 z e) (h2 : DyV n2 L2 e2 z e) : n1 = n2 ∧ L1 = L2 ∧ e1 = e2 := by
  obtain ⟨d1, c1, v1⟩ := h1
  obtain ⟨d2, c2, v2⟩ := h2
  have nz : ∀ (n : Bool) (L : List Nat) (k : Nat), natL L % 2 = 1 → intL n L * 2 ^ k ≠ 0 := fun n L k h => by
    have := intL_odd n L h
    have hp : (0 : Int) < 2 ^ k := Int.pow_pos (by decide)
    exact Int.mul_ne_zero (by omega) (by omega)
  rcases v1 with ⟨z1, l1, m1, x1⟩ | ⟨o1, k1, w1, x1⟩
  · rcases v2 with ⟨z2, l2, m2, x2⟩ | ⟨o2, k2, w2, x2⟩
    · exact ⟨by rw [m1, m2], by rw [l1, l2], by rw [x1, x2]⟩
    · exact absurd (w2.trans z1) (nz _ _ _ o2)
  · rcases v2 with ⟨z2, l2, m2, x2⟩ | ⟨o2, k2, w2, x2⟩
    · exact absurd (w1.trans z2) (nz _ _ _ o1)
    · obtain ⟨ek, ei⟩ := odd_same _ _ k1 k2 (intL_odd n1 L1 o1) (intL_odd n2 L2 o2) (by rw [w1, w2])
      have en : natL L1 = natL L2 ∧ n1 = n2 := by
        unfold intL at ei
        cases n1 <;> cases n2 <;> simp at ei ⊢ <;> omega
      exact ⟨en.2, natL_uniq _ _ d1 d2 c1 c2 en.1, by rw [x1, x2, ek]⟩
/-- A lesser exponent tells the same number by more steps. -/
theorem DyV.low {n : Bool} {L : List Nat} {e' z e : Int} (h : DyV n L e' z e) (k : Nat) : DyV n L e' (z * 2 ^ k) (e - k) := by
  obtain ⟨d, c, v⟩ := h
  refine ⟨d, c, ?_⟩
  rcases v with ⟨z1, l1, m1, x1⟩ | ⟨o1, k1, w1, x1⟩
  · exact Or.inl ⟨by rw [z1, Int.zero_mul], l1, m1, x1⟩
  · exact Or.inr ⟨o1, k1 + k, by rw [Int.pow_add, ← Int.mul_assoc, w1], by omega⟩
/-- And a greater one, where the number is so many steps of it. -/
theorem DyV.high {n : Bool} {L : List Nat} {e' z e : Int} {k : Nat} (h : DyV n L e' (z * 2 ^ k) e) : DyV n L e' z (e + k) := by
  obtain ⟨d, c, v⟩ := h
  refine ⟨d, c, ?_⟩
  have hp : (0 : Int) < 2 ^ k := Int.pow_pos (by decide)
  rcases v with ⟨z1, l1, m1, x1⟩ | ⟨o1, k1, w1, x1⟩
  · refine Or.inl ⟨?_, l1, m1, x1⟩
    rcases Int.mul_eq_zero.1 z1 with c | c
    · exact c
    · omega
  · obtain ⟨j, j1, j2⟩ := odd_shift _ _ _ _ (intL_odd n L o1) w1
    exact Or.inr ⟨o1, j, j2.symm, by omega⟩
/-- The number at its own exponent. -/
theorem DyV.own {n : Bool} {L : List Nat} {e' z e : Int} (h : DyV n L e' z e) : DyV n L e' (intL n L) e' := by
  obtain ⟨d, c, v⟩ := h
  refine ⟨d, c, ?_⟩
  rcases v with ⟨z1, l1, m1, x1⟩ | ⟨o1, k1, w1, x1⟩
  · exact Or.inl ⟨by rw [l1, m1]; rfl, l1, m1, x1⟩
  · exact Or.inr ⟨o1, 0, by rw [Int.pow_zero, Int.mul_one], by omega⟩
/-- Of one that isn't 0: its exponent is no lesser, and the steps between. -/
theorem DyV.val {n : Bool} {L : List Nat} {e' z e : Int} (h : DyV n L e' z e) : (z = 0 ∧ L = [] ∧ n = false ∧ e' = 0) ∨ (L ≠ [] ∧ natL L % 2 = 1 ∧ z ≠ 0 ∧ ∃ k : Nat, intL n L * 2 ^ k = z ∧ e' = e + k) := by
  obtain ⟨d, c, v⟩ := h
  rcases v with v | ⟨o1, k1, w1, x1⟩
  · exact Or.inl v
  · refine Or.inr ⟨fun hl => absurd (hl ▸ o1 : natL [] % 2 = 1) (by decide), o1, fun hz => ?_, k1, w1, x1⟩
    have := intL_odd n L o1
    have hp : (0 : Int) < 2 ^ k1 := Int.pow_pos (by decide)
    exact Int.mul_ne_zero (show intL n L ≠ 0 by omega) (by omega) (w1.trans hz)
end Go.Proofs.YtehnkgonhgjeiaaGreatDoor

namespace Go.Proofs.YtehnkgonhgjeiaaGreatDoor
open Go.RowKit Go.IntWalk

theorem _root_.Go.World.rowIs.drewN_set {w : World} {b n : Nat} {t : TypeId} {f : Nat → Value} (h : w.rowIs b t n f) (i v : Nat) (k : Nat) : ((w.drewN k).setCell ⟨b, i, none⟩ (.int .u32 v)).rowIs b t n (fun j => if j = i then (.int .u32 v) else f j) :=
  World.rowIs.set (w := w.drewN k) (h.of_block rfl) i _
set_option maxRecDepth 4000 in
set_option maxHeartbeats 4000000 in
theorem times_any (A B : List Nat) (a b : Option Addr) (ca cb : Nat) (w : World) (hA : MagAt w a A) (hB : MagAt w b B) (hnA : A.length ≤ 400000) (hnB : B.length ≤ 400000) (dA : DigL A) (dB : DigL B) :
    Calls Tryz.prog 133 #[.slice a A.length ca, .slice b B.length cb] w fun r w' => MagOk (natL A * natL B) (A.length + B.length) r w' ∧ Below w.heap.size w w' := by
  have HA := hid hA
  have HB := hid hB
  obtain ⟨n, hnl⟩ : ∃ n, Hid (A.length = n) := ⟨_, rfl⟩
  obtain ⟨m, hml⟩ : ∃ m, Hid (B.length = m) := ⟨_, rfl⟩
  rw [hnl.out] at hnA ⊢
  rw [hml.out] at hnB ⊢
  obtain ⟨M, hM⟩ : ∃ M, Hid (n + m = M) := ⟨_, rfl⟩
  have hM1 : IntKind.i64.wrap ((n : Int) + (m : Int)) = (M : Int) := by have := hM.out; rw [IntWalk.i64_in _ (by omega)]; omega
  have hM2 : (n : Int) + (m : Int) = (M : Int) := by have := hM.out; omega
  have hmk := run_make_row' (P := Tryz.prog) 39 92 (.int .u32 0) 4 Tryz.underlying39 infoU rfl .i64 .i64 M (by have := hM.out; omega) (by have := hM.out; omega)
  rw [hM.out]
  clear hA hB
  go_enter Tryz.func133, Tryz.ntmps133
  go_wp2
  go_loopw [6] (fun i wr => ∃ (k : Nat) (o : Nat → Nat), k ≤ n ∧ i = .int .i64 k ∧ Hid (wr.rowIs w.heap.size 92 M (fun j => .int .u32 (o j))) ∧ Hid (natF o M = natL (A.take k) * natL B ∧ (∀ j, o j < 4294967296) ∧ (∀ j, k + m ≤ j → o j = 0)) ∧ Hid (Below w.heap.size w wr)) (fun i _ => n - (intOf i).toNat)
  case atStart => exact ⟨0, fun _ => 0, Nat.zero_le _, rfl, World.rowIs_made w (.int .u32 0) M _, ⟨by rw [natF_zero]; show 0 = 0 * _; rw [Nat.zero_mul], fun _ => (show 0 < 4294967296 by decide), fun _ _ => rfl⟩, (Below.refl _ _).alloc (Nat.le_refl _) _⟩
  case round =>
    obtain ⟨k, o, hkn, rfl, HR, HI, HBW⟩ := hrel
    by_cases hlt : k < n
    · have hltI : (k : Int) < (n : Int) := by omega
      have HKN := hid hlt
      have hxl := dA.get k
      obtain ⟨x, hx⟩ : ∃ x, Hid (A.getD k 0 = x) := ⟨_, rfl⟩
      rw [hx.out] at hxl
      have HXL := hid hxl
      have HM0 := hid (XInv.zero B x k M o HI.out.2.1 (fun j hj => HI.out.2.2 j (by rw [← hml.out]; exact hj)))
      obtain ⟨V, hV⟩ : ∃ V, Hid (natF o M = V) := ⟨_, rfl⟩
      rw [hV.out] at HM0
      have HKI : Hid (k + m < M) := by have := hM.out; have := HKN.out; show k + m < M; omega
      clear hlt hkn hxl
      go_wp2
      go_loopw [7, 8] (fun cv kv wr2 => ∃ (l c : Nat) (o2 : Nat → Nat), l ≤ m ∧ kv = .int .i64 l ∧ cv = .int .u64 c ∧ Hid (wr2.rowIs w.heap.size 92 M (fun j => .int .u32 (o2 j))) ∧ Hid (XInv B x k M V o2 l c) ∧ Hid (Below w.heap.size w wr2)) (fun _ kv _ => m - (intOf kv).toNat)
      case atStart => exact ⟨0, 0, o, Nat.zero_le _, rfl, rfl, HR, HM0, HBW⟩
      case round =>
        obtain ⟨l, c, o2, hlm, rfl, rfl, HR2, HI2, HBW2⟩ := hrel
        by_cases hl2 : l < m
        · obtain ⟨ba, oa, rfl, hba, hca1⟩ := HA.out k (by rw [hnl.out]; exact HKN.out)
          obtain ⟨bb, ob, rfl, hbb, hcb1⟩ := HB.out l (by rw [hml.out]; exact hl2)
          have hca2 : wr.cell? ⟨ba, oa + k, none⟩ = some (.int .u32 x) := by
            rw [HBW2.out.cell (p := ⟨ba, oa + k, none⟩) hba, ← hx.out]
            exact hca1
          have hcb2 : wr.cell? ⟨bb, ob + l, none⟩ = some (.int .u32 (B.getD l 0)) := by
            rw [HBW2.out.cell (p := ⟨bb, ob + l, none⟩) hbb]
            exact hcb1
          clear hba hbb hca1 hcb1
          have HST := hid (HI2.out.step (by rw [hml.out]; exact hl2) (by rw [hml.out]; have := HKI.out; omega) HXL.out dB)
          obtain ⟨i1, i2, i3, i4⟩ := HI2.out
          have hyl := dB.get l
          obtain ⟨y, hy⟩ : ∃ y, Hid (B.getD l 0 = y) := ⟨_, rfl⟩
          rw [hy.out] at hcb2 hyl HST
          obtain ⟨P, hP⟩ : ∃ P, Hid (k + l = P) := ⟨_, rfl⟩
          have hP1 : IntKind.i64.wrap ((k : Int) + (l : Int)) = (P : Int) := by have := hP.out; rw [IntWalk.i64_in _ (by omega)]; omega
          have hP2 : (k : Int) + (l : Int) = (P : Int) := by have := hP.out; omega
          have hP3 : IntKind.i64.wrap (P : Int) = (P : Int) := by have := hP.out; rw [IntWalk.i64_in _ (by omega)]
          have hPM : P < M := by have := hP.out; have := HKI.out; omega
          have hPI : (P : Int) < (M : Int) := by omega
          have hlI : (l : Int) < (m : Int) := by omega
          rw [hP.out] at HST
          have cx := HR2.out.cell (i := P) hPM
          have fx := HR2.out.frozen
          have hlt2 := HR2.out.lt
          have hul := i3 P
          obtain ⟨u, hu⟩ : ∃ u, Hid (o2 P = u) := ⟨_, rfl⟩
          rw [hu.out] at cx hul HST
          obtain ⟨t1, t2⟩ := times_lt x y u c HXL.out hyl hul i2
          obtain ⟨X1, hX1⟩ : ∃ X1, Hid (x * y = X1) := ⟨_, rfl⟩
          rw [hX1.out] at t1 t2 HST
          obtain ⟨X2, hX2⟩ : ∃ X2, Hid (X1 + u = X2) := ⟨_, rfl⟩
          rw [hX2.out] at t1 t2 HST
          obtain ⟨T, hT⟩ : ∃ T, Hid (X2 + c = T) := ⟨_, rfl⟩
          rw [hT.out] at t1 t2 HST
          have hwx : IntKind.u64.wrap (x : Int) = (x : Int) := by have := HXL.out; rw [IntKind.wrap_u64]; omega
          have hwy : IntKind.u64.wrap (y : Int) = (y : Int) := by rw [IntKind.wrap_u64]; omega
          have hwu : IntKind.u64.wrap (u : Int) = (u : Int) := by rw [IntKind.wrap_u64]; omega
          have hm0 : (x : Int) * (y : Int) = (X1 : Int) := by rw [← hX1.out, Int.natCast_mul]
          have hm1 : IntKind.u64.wrap (X1 : Int) = (X1 : Int) := by have := hX2.out; have := hT.out; rw [IntKind.wrap_u64]; omega
          have hm2 : (X1 : Int) + (u : Int) = (X2 : Int) := by have := hX2.out; omega
          have hm3 : IntKind.u64.wrap (X2 : Int) = (X2 : Int) := by have := hT.out; rw [IntKind.wrap_u64]; omega
          have hm4 : (X2 : Int) + (c : Int) = (T : Int) := by have := hT.out; omega
          have hm5 : IntKind.u64.wrap (T : Int) = (T : Int) := by rw [IntKind.wrap_u64]; omega
          obtain ⟨lo, hlo⟩ : ∃ lo, Hid (T % 4294967296 = lo) := ⟨_, rfl⟩
          obtain ⟨hi, hhi⟩ : ∃ hi, Hid (T / 4294967296 = hi) := ⟨_, rfl⟩
          have hl1 : IntKind.u32.wrap (T : Int) = (lo : Int) := by have := hlo.out; rw [IntKind.wrap_u32]; omega
          have hh1 : (T : Int) / 4294967296 = (hi : Int) := by have := hhi.out; omega
          rw [hlo.out, hhi.out] at HST
          clear i1 i2 i3 i4 t1 t2 hul hyl
          go_wp2_with fail
          go_quiet (fail)
          go_wp2
          go_roundw
          case rel =>
            refine ⟨l + 1, hi, setW o2 P lo, by omega, by go_num, rfl, ?_, HST, ?_⟩
            · refine (HR2.out.drewN_set P lo _).congr (fun j _ => ?_)
              unfold setW
              by_cases hj : j = P
              · rw [if_pos hj, if_pos hj]
              · rw [if_neg hj, if_neg hj]
            · exact Below.setCell (bl_drewN _ HBW2.out) (Nat.le_refl _) _
          case measure => simp [intOf]; omega
        · have hlm' : l = m := by omega
          subst hlm'
          have hIr := HI2.out
          rw [← hml.out] at hIr
          obtain ⟨q1, q2, q3⟩ := hIr.row (by rw [hml.out]; exact HKI.out)
          have hcl := HI2.out.2.1
          rw [hml.out] at q1 q2 q3
          obtain ⟨Q, hQ⟩ : ∃ Q, Hid (k + l = Q) := ⟨_, rfl⟩
          rw [hQ.out] at q1 q2 q3
          have hQ2 : (k : Int) + (l : Int) = (Q : Int) := by have := hQ.out; omega
          have hQ3 : IntKind.i64.wrap (Q : Int) = (Q : Int) := by have := hQ.out; rw [IntWalk.i64_in _ (by omega)]
          have hQM : Q < M := by have := hQ.out; have := HKI.out; omega
          have hQI : (Q : Int) < (M : Int) := by omega
          have cx := HR2.out.cell (i := Q) hQM
          have fx := HR2.out.frozen
          have hlt2 := HR2.out.lt
          have hwc : IntKind.u32.wrap (c : Int) = (c : Int) := by rw [IntKind.wrap_u32]; omega
          have HNX : Hid (natF (setW o2 Q c) M = natL (A.take (k + 1)) * natL B ∧ (∀ j, setW o2 Q c j < 4294967296) ∧ (∀ j, k + 1 + l ≤ j → setW o2 Q c j = 0)) := by
            refine ⟨?_, q2, q3⟩
            rw [q1, ← hV.out, HI.out.1, natL_take_succ A k (by rw [hnl.out]; exact HKN.out), hx.out, Nat.add_mul, Nat.mul_assoc]
          clear q1 q2 q3 hIr hcl
          go_wp2
          go_roundw
          case rel =>
            refine ⟨k + 1, setW o2 Q c, HKN.out, by go_num, ?_, HNX, Below.setCell HBW2.out (Nat.le_refl _) _⟩
            refine (HR2.out.set Q _).congr (fun j _ => ?_)
            unfold setW
            by_cases hj : j = Q
            · rw [if_pos hj, if_pos hj]
            · rw [if_neg hj, if_neg hj]
          case measure => have := HKN.out; simp [intOf]; omega
    · have hkn' : k = n := by omega
      subst hkn'
      have HL := hid (show ((List.range M).map o).length = M by rw [List.length_map, List.length_range])
      have HCUT := hid (bcut_any ((List.range M).map o) (some ⟨w.heap.size, 0, none⟩) M wr (row_mag wr _ M _ o HR.out) (by rw [HL.out]; exact Nat.le_refl _) (by rw [HL.out]; have := hM.out; omega))
      rw [HL.out] at HCUT
      go_wp2_with fail
      refine HCUT.out.mono ?_
      rintro r w1 ⟨⟨j, hj, rfl, hv, he⟩, rfl⟩
      have hDo : DigL ((List.range M).map o) := by
        intro d hd
        obtain ⟨i, _, rfl⟩ := List.mem_map.1 hd
        exact HI.out.2.1 i
      obtain ⟨hcan, hlen⟩ := can_take _ j (by rw [HL.out]; exact hj) he
      have HF : Hid (MagOk (natL A * natL B) M (.returned (.slice (some ⟨w.heap.size, 0, none⟩) j M)) w1) := by
        refine ⟨((List.range M).map o).take j, some ⟨w.heap.size, 0, none⟩, M, by rw [hlen], by rw [hlen]; exact hj, by rw [hlen]; exact hj, (row_mag w1 _ M _ o HR.out).take j, hDo.take j, hcan, ?_⟩
        rw [hv, natF_list, HI.out.1, ← hnl.out, List.take_length]
      clear hv he hcan hlen hDo hj
      go_wp2
      go_ret
      exact ⟨HF.out, HBW.out⟩
end Go.Proofs.YtehnkgonhgjeiaaGreatDoor
