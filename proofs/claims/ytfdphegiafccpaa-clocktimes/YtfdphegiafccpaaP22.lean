
/- What the document's sum does, where the signs are unlike and the first one is not the less; sum, Add and Sub of any two numbers. -/
import Derived.Test.YtfdphegiafccpaaP21
namespace Go.Proofs.Ytfdphegiafccpaa
open Go.RowKit Go.IntWalk

set_option maxHeartbeats 4000000 in
theorem sum_ge (z x y : Nat) (neg turn : Bool) (A B : List Nat) (w : World) (hz : ZOk z w w) (hxz : x ≠ z) (hyz : y ≠ z) (hx : BigAt w x neg A) (hy : BigAt w y (neg == turn) B) (hA : A.length ≤ 999999) (hB : B.length ≤ 999999) (hle : natL B ≤ natL A) :
    Calls Try.prog 41 #[.pointer (some ⟨z, 0, none⟩), .pointer (some ⟨x, 0, none⟩), .pointer (some ⟨y, 0, none⟩), .bool turn] w fun r w' => r = .returned (.pointer (some ⟨z, 0, none⟩)) ∧ PutIs z (neg && decide (natL A - natL B ≠ 0)) (natL A - natL B) A.length w w' := by
  obtain ⟨a, ca, ho, hcap, hm, hd, hc, hneg⟩ := hx
  obtain ⟨c0, c1, hf, hlt⟩ := int_cells ho
  obtain ⟨b, cb, ho', hcap', hm', hd', hc', hneg'⟩ := hy
  obtain ⟨c0', c1', hf', hlt'⟩ := int_cells ho'
  obtain ⟨cc, hcc⟩ : ∃ cc, Hid (cmpI (natL A) (natL B) = cc) := ⟨_, rfl⟩
  have hc0 : 0 ≤ cc := by rw [← hcc.out]; unfold cmpI; rw [if_neg (by omega)]; split <;> omega
  have HMA : Hid (∀ w', ZOk z w w' → MagAt w' a A) := by
    intro w' hw
    obtain ⟨_, neg0, a0, n0, cap0, hoz⟩ := hz
    refine hm.but hw.1 (fun b off e h0 => ?_)
    obtain ⟨b', off', e', hne⟩ := mag_ne hoz hm h0
    rw [e] at e'
    cases e'
    exact hne
  have HMB : Hid (∀ w', ZOk z w w' → MagAt w' b B) := by
    intro w' hw
    obtain ⟨_, neg0, a0, n0, cap0, hoz⟩ := hz
    refine hm'.but hw.1 (fun b off e h0 => ?_)
    obtain ⟨b', off', e', hne⟩ := mag_ne hoz hm' h0
    rw [e] at e'
    cases e'
    exact hne
  have HC : Hid (∀ w', Hid (ZOk z w w') → Calls Try.prog 39 #[.slice a A.length ca, .slice b B.length cb] w' fun r w1 => r = .returned (.int .i64 cc) ∧ Hid (ZOk z w w1)) := by
    intro w' hw
    refine (bcompare_any A B a b ca cb w' (HMA.out _ hw.out) (HMB.out _ hw.out) hd hd' hc hc' (by omega) (by omega)).mono ?_
    rintro r w1 ⟨rfl, hb1⟩
    exact ⟨by rw [hcc.out], ZOk.below hw.out hb1⟩
  have HL : Hid (∀ w', Hid (ZOk z w w') → Calls Try.prog 49 #[.slice a A.length ca, .slice b B.length cb] w' fun r w1 => ∃ L' a' cap', r = .returned (.slice a' L'.length cap') ∧ Hid (MagIs (natL A - natL B) A.length L' a' cap' w1) ∧ Hid (ZOk z w w1)) := by
    intro w' hw
    refine (minus_any A B a b ca cb w' (HMA.out _ hw.out) (HMB.out _ hw.out) hd hd' hc' (by omega) (by omega)).mono ?_
    rintro r w1 ⟨⟨L', a', cap', hr, h1⟩, hb1⟩
    exact ⟨L', a', cap', hr, h1, ZOk.below hw.out hb1⟩
  obtain ⟨v, hv⟩ : ∃ v, Hid (natL A - natL B = v) := ⟨_, rfl⟩
  rw [hv.out] at HL ⊢
  have HP : Hid (∀ w1 L' a' cap', Hid (ZOk z w w1) → Hid (MagIs v A.length L' a' cap' w1) → Calls Try.prog 37 #[.pointer (some ⟨z, 0, none⟩), .bool neg, .slice a' L'.length cap'] w1 fun r w' => r = .returned (.pointer (some ⟨z, 0, none⟩)) ∧ Hid (PutIs z (neg && decide (v ≠ 0)) v A.length w w') ∧ Hid (ZOk z w w')) := by
    intro w1 L' a' cap' h1 h2
    refine (put_is z neg v A.length w w1 L' a' cap' h1.out h2.out (by omega)).mono ?_
    rintro r w' ⟨rfl, L', e1, e2, e3, e4⟩
    exact ⟨rfl, ⟨L', e1, e2, e3, e4⟩, ZOk.big h1.out e4 e3⟩
  obtain ⟨k, hk⟩ : ∃ k, Hid (A.length = k) := ⟨_, rfl⟩
  obtain ⟨l, hl⟩ : ∃ l, Hid (B.length = l) := ⟨_, rfl⟩
  rw [hk.out] at HL HC HP c1 ⊢
  rw [hl.out] at HL HC c1'
  have HK : Hid (∀ w', Hid (ZOk z w w') → (w'.cell? ⟨x, 0, none⟩ = some (.bool neg) ∧ w'.cell? ⟨x, 1, none⟩ = some (.slice a k ca) ∧ w'.cell? ⟨y, 1, none⟩ = some (.slice b l cb)) ∧ Hid (ZOk z w w')) := fun w' h => ⟨⟨h.out.1.cell c0 hxz, h.out.1.cell c1 hxz, h.out.1.cell c1' hyz⟩, h⟩
  have HZ0 : Hid (ZOk z w w.drew) := hz.drew
  have HZD : Hid (∀ w1, Hid (ZOk z w w1) → Hid (ZOk z w w1.drew)) := fun w1 h => h.out.drew
  clear hz hA hB hm hm' hd hd' hc hc' hneg hneg' ho ho' hcap hcap' hf hf' hle HMA HMB hxz hyz
  cases neg <;> cases turn
  all_goals
    go_enter Try.func41, Try.ntmps41
    go_wp2_with fail
  · go_region_held3 (fun w' => (w'.cell? ⟨x, 0, none⟩ = some (.bool false) ∧ w'.cell? ⟨x, 1, none⟩ = some (.slice a k ca) ∧ w'.cell? ⟨y, 1, none⟩ = some (.slice b l cb)) ∧ Hid (ZOk z w w')) (exact HK.out _ (by assumption))
      (first | (go_at_call 39; refine (HC.out _ (And.right (by assumption))).mono ?_; rintro r w1 ⟨rfl, HB1⟩))
    have HZ1 := HZD.out _ HB1
    go_wp2_with fail
    go_region_held3 (fun w' => (w'.cell? ⟨x, 0, none⟩ = some (.bool false) ∧ w'.cell? ⟨x, 1, none⟩ = some (.slice a k ca) ∧ w'.cell? ⟨y, 1, none⟩ = some (.slice b l cb)) ∧ Hid (ZOk z w w')) (exact HK.out _ (by assumption))
      (first
        | (go_at_call 49; refine (HL.out _ (And.right (by assumption))).mono ?_; rintro r w2 ⟨L', a', cap', rfl, HM, HZ2⟩)
        | (go_at_call 37; refine (HP.out _ _ _ _ (by assumption) (by assumption)).mono ?_; rintro r w3 ⟨rfl, HE, HZ3⟩))
    all_goals go_wp2
    all_goals go_ret
    all_goals exact ⟨rfl, Hid.out (by assumption)⟩
  · go_region_held3 (fun w' => (w'.cell? ⟨x, 0, none⟩ = some (.bool false) ∧ w'.cell? ⟨x, 1, none⟩ = some (.slice a k ca) ∧ w'.cell? ⟨y, 1, none⟩ = some (.slice b l cb)) ∧ Hid (ZOk z w w')) (exact HK.out _ (by assumption))
      (first | (go_at_call 39; refine (HC.out _ (And.right (by assumption))).mono ?_; rintro r w1 ⟨rfl, HB1⟩))
    have HZ1 := HZD.out _ HB1
    go_wp2_with fail
    go_region_held3 (fun w' => (w'.cell? ⟨x, 0, none⟩ = some (.bool false) ∧ w'.cell? ⟨x, 1, none⟩ = some (.slice a k ca) ∧ w'.cell? ⟨y, 1, none⟩ = some (.slice b l cb)) ∧ Hid (ZOk z w w')) (exact HK.out _ (by assumption))
      (first
        | (go_at_call 49; refine (HL.out _ (And.right (by assumption))).mono ?_; rintro r w2 ⟨L', a', cap', rfl, HM, HZ2⟩)
        | (go_at_call 37; refine (HP.out _ _ _ _ (by assumption) (by assumption)).mono ?_; rintro r w3 ⟨rfl, HE, HZ3⟩))
    all_goals go_wp2
    all_goals go_ret
    all_goals exact ⟨rfl, Hid.out (by assumption)⟩
  · go_region_held3 (fun w' => (w'.cell? ⟨x, 0, none⟩ = some (.bool true) ∧ w'.cell? ⟨x, 1, none⟩ = some (.slice a k ca) ∧ w'.cell? ⟨y, 1, none⟩ = some (.slice b l cb)) ∧ Hid (ZOk z w w')) (exact HK.out _ (by assumption))
      (first | (go_at_call 39; refine (HC.out _ (And.right (by assumption))).mono ?_; rintro r w1 ⟨rfl, HB1⟩))
    have HZ1 := HZD.out _ HB1
    go_wp2_with fail
    go_region_held3 (fun w' => (w'.cell? ⟨x, 0, none⟩ = some (.bool true) ∧ w'.cell? ⟨x, 1, none⟩ = some (.slice a k ca) ∧ w'.cell? ⟨y, 1, none⟩ = some (.slice b l cb)) ∧ Hid (ZOk z w w')) (exact HK.out _ (by assumption))
      (first
        | (go_at_call 49; refine (HL.out _ (And.right (by assumption))).mono ?_; rintro r w2 ⟨L', a', cap', rfl, HM, HZ2⟩)
        | (go_at_call 37; refine (HP.out _ _ _ _ (by assumption) (by assumption)).mono ?_; rintro r w3 ⟨rfl, HE, HZ3⟩))
    all_goals go_wp2
    all_goals go_ret
    all_goals exact ⟨rfl, Hid.out (by assumption)⟩
  · go_region_held3 (fun w' => (w'.cell? ⟨x, 0, none⟩ = some (.bool true) ∧ w'.cell? ⟨x, 1, none⟩ = some (.slice a k ca) ∧ w'.cell? ⟨y, 1, none⟩ = some (.slice b l cb)) ∧ Hid (ZOk z w w')) (exact HK.out _ (by assumption))
      (first | (go_at_call 39; refine (HC.out _ (And.right (by assumption))).mono ?_; rintro r w1 ⟨rfl, HB1⟩))
    have HZ1 := HZD.out _ HB1
    go_wp2_with fail
    go_region_held3 (fun w' => (w'.cell? ⟨x, 0, none⟩ = some (.bool true) ∧ w'.cell? ⟨x, 1, none⟩ = some (.slice a k ca) ∧ w'.cell? ⟨y, 1, none⟩ = some (.slice b l cb)) ∧ Hid (ZOk z w w')) (exact HK.out _ (by assumption))
      (first
        | (go_at_call 49; refine (HL.out _ (And.right (by assumption))).mono ?_; rintro r w2 ⟨L', a', cap', rfl, HM, HZ2⟩)
        | (go_at_call 37; refine (HP.out _ _ _ _ (by assumption) (by assumption)).mono ?_; rintro r w3 ⟨rfl, HE, HZ3⟩))
    all_goals go_wp2
    all_goals go_ret
    all_goals exact ⟨rfl, Hid.out (by assumption)⟩
/-- What a method leaves, told as a whole number. -/
def PutZ (z : Nat) (v : Int) (bound : Nat) (w w' : World) : Prop := ∃ neg L', intL neg L' = v ∧ L'.length ≤ bound ∧ BigAt w' z neg L' ∧ But z w w'
theorem PutIs.toZ {z : Nat} {neg : Bool} {n bound b2 : Nat} {v : Int} {w w' : World} (h : PutIs z neg n bound w w') (hv : (if neg = true then -(n : Int) else n) = v) (hb : bound ≤ b2) : PutZ z v b2 w w' := by
  obtain ⟨L', e1, e2, e3, e4⟩ := h
  exact ⟨neg, L', by unfold intL; rw [e1]; exact hv, by omega, e3, e4⟩
theorem sum_any (z x y : Nat) (n1 n2 turn : Bool) (A B : List Nat) (w : World) (hz : ZOk z w w) (hap : n2 = (n1 != turn) ∨ (x ≠ z ∧ y ≠ z)) (hx : BigAt w x n1 A) (hy : BigAt w y n2 B) (hA : A.length ≤ 999999) (hB : B.length ≤ 999999) :
    Calls Try.prog 41 #[.pointer (some ⟨z, 0, none⟩), .pointer (some ⟨x, 0, none⟩), .pointer (some ⟨y, 0, none⟩), .bool turn] w fun r w' => r = .returned (.pointer (some ⟨z, 0, none⟩)) ∧ PutZ z (intL n1 A + (if turn = true then -intL n2 B else intL n2 B)) (max A.length B.length + 1) w w' := by
  by_cases hs : n2 = (n1 != turn)
  · subst hs
    refine (sum_same z x y n1 turn A B w hz hx hy hA hB).mono ?_
    rintro r w' ⟨rfl, h⟩
    refine ⟨rfl, h.toZ ?_ (Nat.le_refl _)⟩
    unfold intL
    by_cases h0 : natL A + natL B = 0
    · have a0 : natL A = 0 := by omega
      have b0 : natL B = 0 := by omega
      rw [a0, b0]
      cases n1 <;> cases turn <;> rfl
    · rw [decide_eq_true h0, Bool.and_true]
      cases n1 <;> cases turn <;> simp <;> omega
  · have hs' : n2 = (n1 == turn) := by cases n1 <;> cases n2 <;> cases turn <;> simp_all
    have hap2 : x ≠ z ∧ y ≠ z := by
      rcases hap with h | h
      · exact absurd h hs
      · exact h
    subst hs'
    by_cases hlt : natL A < natL B
    · refine (sum_less z x y n1 turn A B w hz hx hy hA hB hlt).mono ?_
      rintro r w' ⟨rfl, h⟩
      refine ⟨rfl, h.toZ ?_ (by omega)⟩
      unfold intL
      rw [decide_eq_true (show natL B - natL A ≠ 0 by omega), Bool.and_true]
      cases n1 <;> cases turn <;> simp <;> omega
    · refine (sum_ge z x y n1 turn A B w hz hap2.1 hap2.2 hx hy hA hB (by omega)).mono ?_
      rintro r w' ⟨rfl, h⟩
      refine ⟨rfl, h.toZ ?_ (by omega)⟩
      unfold intL
      by_cases h0 : natL A - natL B = 0
      · rw [h0]
        cases n1 <;> cases turn <;> simp <;> omega
      · rw [decide_eq_true h0, Bool.and_true]
        cases n1 <;> cases turn <;> simp <;> omega
set_option maxHeartbeats 400000 in
theorem Add_big (z x y : Nat) (n1 n2 : Bool) (A B : List Nat) (w : World) (hz : ZOk z w w) (hap : n2 = (n1 != false) ∨ (x ≠ z ∧ y ≠ z)) (hx : BigAt w x n1 A) (hy : BigAt w y n2 B) (hA : A.length ≤ 999999) (hB : B.length ≤ 999999) :
    Calls Try.prog 32 #[.pointer (some ⟨z, 0, none⟩), .pointer (some ⟨x, 0, none⟩), .pointer (some ⟨y, 0, none⟩)] w fun r w' => r = .returned (.pointer (some ⟨z, 0, none⟩)) ∧ PutZ z (intL n1 A + intL n2 B) (max A.length B.length + 1) w w' := by
  have HS := hid (sum_any z x y n1 n2 false A B w hz hap hx hy hA hB)
  clear hz hx hy hA hB hap
  go_enter Try.func32, Try.ntmps32
  go_wp2_with fail
  refine HS.out.mono ?_
  rintro r w1 ⟨rfl, HE⟩
  have HE := hid HE
  go_wp2
  go_ret
  exact ⟨rfl, HE.out⟩
end Go.Proofs.Ytfdphegiafccpaa
