
/- What the document's Rsh (of a number that isn't below 0), compare and Cmp do. -/
import Derived.Test.YtfdphegiafccpaaP10
import Derived.Deep.QuietTactic
import Derived.Deep.RegionHeld3
namespace Go.Proofs.Ytfdphegiafccpaa
open Go.RowKit Go.IntWalk

/-- How two magnitudes of one length compare, from a place on downwards. -/
def cmpI (a b : Nat) : Int := if a < b then -1 else if b < a then 1 else 0
theorem natL_cmp (A B : List Nat) (hA : DigL A) (k : Nat) (hk : k < A.length) (hk2 : k < B.length) (hhi : A.drop (k + 1) = B.drop (k + 1)) (hl : A.length = B.length) (hlt : A.getD k 0 < B.getD k 0) : natL A < natL B := by
  have e1 := natL_append (A.take (k + 1)) (A.drop (k + 1))
  have e2 := natL_append (B.take (k + 1)) (B.drop (k + 1))
  rw [List.take_append_drop, List.length_take, Nat.min_eq_left (by omega)] at e1 e2
  rw [natL_take_succ A k hk] at e1
  rw [natL_take_succ B k hk2] at e2
  rw [hhi] at e1
  have h1 := natL_lt (A.take k) (hA.take k)
  rw [List.length_take, Nat.min_eq_left (by omega)] at h1
  have h2 : 4294967296 ^ k * (A.getD k 0 + 1) ≤ 4294967296 ^ k * B.getD k 0 := Nat.mul_le_mul_left _ hlt
  rw [Nat.mul_add, Nat.mul_one] at h2
  omega
theorem natL_shorter (A B : List Nat) (hA : DigL A) (hB : CanL B) (hl : A.length < B.length) : natL A < natL B := by
  have h1 := natL_lt A hA
  have h2 := natL_ge B (fun c => by rw [c] at hl; exact absurd hl (Nat.not_lt_zero _)) hB
  have h3 : 4294967296 ^ A.length ≤ 4294967296 ^ (B.length - 1) := Nat.pow_le_pow_right (by decide) (by omega)
  omega
theorem cmpI_lt {a b : Nat} (h : a < b) : cmpI a b = -1 := if_pos h
theorem cmpI_gt {a b : Nat} (h : b < a) : cmpI a b = 1 := by unfold cmpI; rw [if_neg (by omega), if_pos h]
theorem cmpI_eq {a b : Nat} (h : a = b) : cmpI a b = 0 := by unfold cmpI; rw [if_neg (by omega), if_neg (by omega)]
theorem drop_step (A B : List Nat) (k : Nat) (hA : k < A.length) (hB : k < B.length) (h : A.drop (k + 1) = B.drop (k + 1)) (e : A.getD k 0 = B.getD k 0) : A.drop k = B.drop k := by
  rw [List.drop_eq_getElem_cons hA, List.drop_eq_getElem_cons hB, h]
  congr 1
  simpa [List.getD, hA, hB] using e
set_option maxHeartbeats 1000000 in
theorem bcompare_nil (a b : Option Addr) (ca cb : Nat) (w : World) :
    Calls Try.prog 39 #[.slice a 0 ca, .slice b 0 cb] w fun r w' => r = .returned (.int .i64 0) ∧ w' = w := by
  go_enter Try.func39, Try.ntmps39
  go_wp2
  refine wp_loop_rounds 1 ?_
  rw [rounds_succ]
  go_wp2
  go_ret
  exact ⟨rfl, rfl⟩
set_option maxHeartbeats 1000000 in
theorem bcompare_same (A B : List Nat) (ba oa bb ob ca cb n : Nat) (w : World) (hA : ∀ i, i < n → w.cell? ⟨ba, oa + i, none⟩ = some (.int .u32 (A.getD i 0))) (hB : ∀ i, i < n → w.cell? ⟨bb, ob + i, none⟩ = some (.int .u32 (B.getD i 0))) (dA : DigL A) (dB : DigL B) (hnA : A.length = n) (hnB : B.length = n) (hn : n ≤ 1000000) :
    Calls Try.prog 39 #[.slice (some ⟨ba, oa, none⟩) n ca, .slice (some ⟨bb, ob, none⟩) n cb] w fun r w' => r = .returned (.int .i64 (cmpI (natL A) (natL B))) ∧ Below w.heap.size w w' := by
  have HA := hid hA
  have HB := hid hB
  have HNA := hid hnA
  have HNB := hid hnB
  have HD : Hid (A.drop n = B.drop n) := by
    show A.drop n = B.drop n
    rw [List.drop_eq_nil_of_le (by omega), List.drop_eq_nil_of_le (by omega)]
  obtain ⟨c, hc⟩ : ∃ c, Hid (cmpI (natL A) (natL B) = c) := ⟨_, rfl⟩
  rw [hc.out]
  clear hA hB hnA hnB
  go_enter Try.func39, Try.ntmps39
  go_wp2
  go_loopw [5] (fun i wr => ∃ (j : Nat), j ≤ n ∧ i = .int .i64 ((j : Int) - 1) ∧ Hid (A.drop j = B.drop j) ∧ Hid (Below w.heap.size w wr)) (fun i _ => (intOf i + 1).toNat)
  case atStart => exact ⟨n, Nat.le_refl _, rfl, HD, Below.refl _ _⟩
  case round =>
    obtain ⟨j, hj, rfl, HE, HBW⟩ := hrel
    by_cases hj0 : j = 0
    · subst hj0
      have hcz : c = 0 := by
        rw [← hc.out]
        have := HE.out
        rw [List.drop_zero, List.drop_zero] at this
        exact cmpI_eq (by rw [this])
      subst hcz
      go_wp2
      go_ret
      exact ⟨rfl, HBW.out⟩
    · obtain ⟨k, rfl⟩ : ∃ k, j = k + 1 := ⟨j - 1, by omega⟩
      have hk1 : ((k + 1 : Nat) : Int) - 1 = (k : Int) := by omega
      have hkI : (k : Int) < (n : Int) := by omega
      have hca : wr.cell? ⟨ba, oa + k, none⟩ = some (.int .u32 (A.getD k 0)) := by
        rw [HBW.out.cell (p := ⟨ba, oa + k, none⟩) (World.block_lt_of_cell? w _ (HA.out k (by omega)))]
        exact HA.out k (by omega)
      have hcb : wr.cell? ⟨bb, ob + k, none⟩ = some (.int .u32 (B.getD k 0)) := by
        rw [HBW.out.cell (p := ⟨bb, ob + k, none⟩) (World.block_lt_of_cell? w _ (HB.out k (by omega)))]
        exact HB.out k (by omega)
      have hcmp := natL_cmp A B dA k (by rw [HNA.out]; omega) (by rw [HNB.out]; omega) HE.out (by rw [HNA.out, HNB.out])
      have hcmp2 := natL_cmp B A dB k (by rw [HNB.out]; omega) (by rw [HNA.out]; omega) HE.out.symm (by rw [HNA.out, HNB.out])
      have hstep := drop_step A B k (by rw [HNA.out]; omega) (by rw [HNB.out]; omega) HE.out
      have hC := hc.out
      obtain ⟨x, hx⟩ : ∃ x, Hid (A.getD k 0 = x) := ⟨_, rfl⟩
      obtain ⟨y, hy⟩ : ∃ y, Hid (B.getD k 0 = y) := ⟨_, rfl⟩
      rw [hx.out] at hca hcmp hcmp2 hstep
      rw [hy.out] at hcb hcmp hcmp2 hstep
      rw [hk1]
      rcases Nat.lt_trichotomy x y with h | h | h
      · rw [cmpI_lt (hcmp h)] at hC
        subst hC
        have hI : (x : Int) < (y : Int) := by omega
        clear hcmp hcmp2 hstep h HE hk1
        go_wp2_with fail
        go_quiet (fail)
        go_wp2
        go_ret
        refine ⟨rfl, ?_⟩
        repeat (first | exact HBW.out | refine bl_drewN _ ?_ | refine Below.drew ?_)
      · subst h
        have HS := hid (hstep rfl)
        have hI : ¬ (x : Int) < (x : Int) := by omega
        clear hcmp hcmp2 hstep HE hC
        go_wp2_with fail
        go_quiet (fail)
        go_wp2_with fail
        go_quiet (fail)
        go_wp2
        refine ⟨⟨k, by omega, rfl, HS, ?_⟩, by simp [intOf]⟩
        repeat (first | exact HBW.out | refine bl_drewN _ ?_ | refine Below.drew ?_)
      · rw [cmpI_gt (hcmp2 h)] at hC
        subst hC
        have hI : (y : Int) < (x : Int) := by omega
        have hI2 : ¬ (x : Int) < (y : Int) := by omega
        clear hcmp hcmp2 hstep h HE hk1
        go_wp2_with fail
        go_quiet (fail)
        go_wp2_with fail
        go_quiet (fail)
        go_wp2
        go_ret
        refine ⟨rfl, ?_⟩
        repeat (first | exact HBW.out | refine bl_drewN _ ?_ | refine Below.drew ?_)
set_option maxHeartbeats 1000000 in
theorem bcompare_any (A B : List Nat) (a b : Option Addr) (ca cb : Nat) (w : World) (hA : MagAt w a A) (hB : MagAt w b B) (dA : DigL A) (dB : DigL B) (cA : CanL A) (cB : CanL B) (hnA : A.length ≤ 1000000) (hnB : B.length ≤ 1000000) :
    Calls Try.prog 39 #[.slice a A.length ca, .slice b B.length cb] w fun r w' => r = .returned (.int .i64 (cmpI (natL A) (natL B))) ∧ Below w.heap.size w w' := by
  by_cases hl : A.length = B.length
  · by_cases h0 : B.length = 0
    · rw [hl, h0, cmpI_eq (by rw [List.length_eq_zero_iff.1 h0, List.length_eq_zero_iff.1 (hl.trans h0)])]
      refine (bcompare_nil a b ca cb w).mono ?_
      rintro r w' ⟨rfl, rfl⟩
      exact ⟨rfl, Below.refl _ _⟩
    · obtain ⟨ba, oa, rfl, _, _⟩ := hA 0 (by omega)
      obtain ⟨bb, ob, rfl, _, _⟩ := hB 0 (by omega)
      rw [hl]
      refine bcompare_same A B ba oa bb ob ca cb B.length w (fun i hi => ?_) (fun i hi => ?_) dA dB hl rfl hnB
      · obtain ⟨b', off', e, _, hc⟩ := hA i (by omega)
        cases e
        exact hc
      · obtain ⟨b', off', e, _, hc⟩ := hB i (by omega)
        cases e
        exact hc
  · obtain ⟨n, hn⟩ : ∃ n, Hid (A.length = n) := ⟨_, rfl⟩
    obtain ⟨m, hm⟩ : ∃ m, Hid (B.length = m) := ⟨_, rfl⟩
    by_cases hlt : A.length < B.length
    · rw [cmpI_lt (natL_shorter A B dA cB hlt)]
      rw [hn.out, hm.out] at hl hlt ⊢
      have hne : ((n : Int) == (m : Int)) = false := by simp; omega
      have hltI : (n : Int) < (m : Int) := by omega
      clear hA hB dA dB cA cB hnA hnB hl hlt
      go_enter Try.func39, Try.ntmps39
      go_wp2
      go_ret
      exact ⟨rfl, Below.refl _ _⟩
    · rw [cmpI_gt (natL_shorter B A dB cA (by omega))]
      rw [hn.out, hm.out] at hl hlt ⊢
      have hne : ((n : Int) == (m : Int)) = false := by simp; omega
      have hltI : ¬ (n : Int) < (m : Int) := by omega
      clear hA hB dA dB cA cB hnA hnB hl hlt
      go_enter Try.func39, Try.ntmps39
      go_wp2
      go_ret
      exact ⟨rfl, Below.refl _ _⟩
/-- The whole number that lies there. -/
def intL (neg : Bool) (L : List Nat) : Int := if neg = true then -(natL L : Int) else natL L
def cmpZ (a b : Int) : Int := if a < b then -1 else if b < a then 1 else 0
theorem cmpZ_pos (a b : Nat) : cmpZ (a : Int) (b : Int) = cmpI a b := by
  unfold cmpZ cmpI
  split <;> split <;> (try split) <;> (try split) <;> omega
theorem cmpZ_neg (a b : Nat) : cmpZ (-(a : Int)) (-(b : Int)) = -cmpI a b := by
  unfold cmpZ cmpI
  split <;> split <;> (try split) <;> (try split) <;> omega
theorem neg_pos {neg : Bool} {L : List Nat} (hc : CanL L) (h : L = [] → neg = false) (hn : neg = true) : 0 < natL L := by
  have h1 : natL L ≠ 0 := fun c => by
    have := h ((natL_zero L hc).1 c)
    rw [hn] at this
    exact Bool.noConfusion this
  omega
set_option maxHeartbeats 1000000 in
theorem Cmp_any (z x : Nat) (n1 n2 : Bool) (A B : List Nat) (w : World) (hz : BigAt w z n1 A) (hx : BigAt w x n2 B) (hA : A.length ≤ 1000000) (hB : B.length ≤ 1000000) :
    Calls Try.prog 30 #[.pointer (some ⟨z, 0, none⟩), .pointer (some ⟨x, 0, none⟩)] w fun r w' => r = .returned (.int .i64 (cmpZ (intL n1 A) (intL n2 B))) ∧ Below w.heap.size w w' := by
  obtain ⟨a, ca, ho, hcap, hm, hd, hc, hneg⟩ := hz
  obtain ⟨c0, c1, hf, hlt⟩ := int_cells ho
  obtain ⟨b, cb, ho', hcap', hm', hd', hc', hneg'⟩ := hx
  obtain ⟨c0', c1', hf', hlt'⟩ := int_cells ho'
  have HC : Hid (∀ w', Below w.heap.size w w' → Calls Try.prog 39 #[.slice a A.length ca, .slice b B.length cb] w' fun r w'' => r = .returned (.int .i64 (cmpI (natL A) (natL B))) ∧ Below w.heap.size w w'') := by
    intro w' hb
    refine (bcompare_any A B a b ca cb w' (hm.but (But.of_below (z := w.heap.size) hb) ?_) (hm'.but (But.of_below (z := w.heap.size) hb) ?_) hd hd' hc hc' hA hB).mono ?_
    · intro b1 off1 e h0 hbz
      obtain ⟨b2, off2, e2, hlt2, _⟩ := hm 0 (by omega)
      rw [e] at e2
      cases e2
      omega
    · intro b1 off1 e h0 hbz
      obtain ⟨b2, off2, e2, hlt2, _⟩ := hm' 0 (by omega)
      rw [e] at e2
      cases e2
      omega
    · rintro r w'' ⟨rfl, hb2⟩
      exact ⟨rfl, bl_then hb hb2⟩
  have HV : Hid (cmpZ (intL n1 A) (intL n2 B) = if n1 = n2 then (if n1 = true then -cmpI (natL A) (natL B) else cmpI (natL A) (natL B)) else if n1 = true then -1 else 1) := by
    unfold intL
    cases n1 <;> cases n2
    · exact cmpZ_pos _ _
    · have := neg_pos hc' hneg' rfl
      show cmpZ (natL A : Int) (-(natL B : Int)) = 1
      unfold cmpZ
      rw [if_neg (by omega), if_pos (by omega)]
    · have := neg_pos hc hneg rfl
      show cmpZ (-(natL A : Int)) (natL B : Int) = -1
      unfold cmpZ
      rw [if_pos (by omega)]
    · exact cmpZ_neg _ _
  rw [HV.out]
  have hr : -1 ≤ cmpI (natL A) (natL B) ∧ cmpI (natL A) (natL B) ≤ 1 := by unfold cmpI; split <;> (try split) <;> omega
  obtain ⟨c, hcc⟩ : ∃ c, Hid (cmpI (natL A) (natL B) = c) := ⟨_, rfl⟩
  rw [hcc.out] at HC hr ⊢
  obtain ⟨k, hk⟩ : ∃ k, Hid (A.length = k) := ⟨_, rfl⟩
  obtain ⟨l, hl⟩ : ∃ l, Hid (B.length = l) := ⟨_, rfl⟩
  rw [hk.out] at HC c1
  rw [hl.out] at HC c1'
  clear hA hB hm hm' hd hd' hc hc' hneg hneg' ho ho' hcap hcap' hf hf' HV
  have HK : Hid (∀ w', Hid (Below w.heap.size w w') → (w'.cell? ⟨z, 0, none⟩ = some (.bool n1) ∧ w'.cell? ⟨z, 1, none⟩ = some (.slice a k ca) ∧ w'.cell? ⟨x, 1, none⟩ = some (.slice b l cb)) ∧ Hid (Below w.heap.size w w')) := fun w' h => ⟨⟨by rw [h.out.cell (p := ⟨z, 0, none⟩) hlt]; exact c0, by rw [h.out.cell (p := ⟨z, 1, none⟩) hlt]; exact c1, by rw [h.out.cell (p := ⟨x, 1, none⟩) hlt']; exact c1'⟩, h⟩
  have HQ : Hid (∀ m, Hid (Below w.heap.size w ((w.drewN m).drew))) := fun m => Below.drew (bl_drewN _ (Below.refl _ _))
  have hwr : IntKind.i64.wrap (-c) = -c := by rw [IntWalk.i64_in _ (by omega)]
  have HC2 : Hid (∀ w', Hid (Below w.heap.size w w') → Calls Try.prog 39 #[.slice a k ca, .slice b l cb] w' fun r w'' => r = .returned (.int .i64 c) ∧ Hid (Below w.heap.size w w'')) := fun w' h => HC.out w' h.out
  clear HC hr
  cases n1 <;> cases n2
  all_goals
    go_enter Try.func30, Try.ntmps30
    go_wp2_with fail
    go_quiet (fail)
    go_wp2_with fail
  · go_region_held3 (fun w' => (w'.cell? ⟨z, 0, none⟩ = some (.bool false) ∧ w'.cell? ⟨z, 1, none⟩ = some (.slice a k ca) ∧ w'.cell? ⟨x, 1, none⟩ = some (.slice b l cb)) ∧ Hid (Below w.heap.size w w')) (exact HK.out _ (by first | assumption | exact HQ.out _))
      (first | (go_at_call 39; refine (HC2.out _ (And.right (by assumption))).mono ?_; rintro r w1 ⟨rfl, HB1⟩))
    obtain ⟨⟨k0, _, _⟩, _⟩ := ‹_ ∧ Hid (Below w.heap.size w w1)›
    all_goals go_wp2
    all_goals go_ret
    all_goals exact ⟨rfl, Hid.out (by assumption)⟩
  · go_ret
    exact ⟨rfl, bl_drewN _ (Below.refl _ _)⟩
  · go_ret
    exact ⟨rfl, bl_drewN _ (Below.refl _ _)⟩
  · go_region_held3 (fun w' => (w'.cell? ⟨z, 0, none⟩ = some (.bool true) ∧ w'.cell? ⟨z, 1, none⟩ = some (.slice a k ca) ∧ w'.cell? ⟨x, 1, none⟩ = some (.slice b l cb)) ∧ Hid (Below w.heap.size w w')) (exact HK.out _ (by first | assumption | exact HQ.out _))
      (first | (go_at_call 39; refine (HC2.out _ (And.right (by assumption))).mono ?_; rintro r w1 ⟨rfl, HB1⟩))
    obtain ⟨⟨k0, _, _⟩, _⟩ := ‹_ ∧ Hid (Below w.heap.size w w1)›
    all_goals go_wp2
    all_goals go_ret
    all_goals exact ⟨rfl, Hid.out (by assumption)⟩
end Go.Proofs.Ytfdphegiafccpaa
