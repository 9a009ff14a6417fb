
/- What the document's Mul does. -/
import Derived.Test.YtfdphegiafccpaaP14
import Derived.Test.YtfdphegiafccpaaP34
namespace Go.Proofs.Ytfdphegiafccpaa
open Go.RowKit Go.IntWalk

set_option maxHeartbeats 4000000 in
theorem Mul_big (z x y : Nat) (n1 n2 : Bool) (A B : List Nat) (w : World) (hz : ZOk z w w) (hxz : x ≠ z) (hyz : y ≠ z) (hx : BigAt w x n1 A) (hy : BigAt w y n2 B) (hA : A.length ≤ 400000) (hB : B.length ≤ 400000) :
    Calls Try.prog 35 #[.pointer (some ⟨z, 0, none⟩), .pointer (some ⟨x, 0, none⟩), .pointer (some ⟨y, 0, none⟩)] w fun r w' => r = .returned (.pointer (some ⟨z, 0, none⟩)) ∧ PutIs z ((n1 != n2) && decide (natL A * natL B ≠ 0)) (natL A * natL B) (A.length + B.length) w w' := by
  obtain ⟨a, ca, ho, hcap, hm, hd, hc, hneg⟩ := hx
  obtain ⟨c0, c1, hf, hlt⟩ := int_cells ho
  obtain ⟨b, cb, ho', hcap', hm', hd', hc', hneg'⟩ := hy
  obtain ⟨c0', c1', hf', hlt'⟩ := int_cells ho'
  have HMA : Hid (∀ w', ZOk z w w' → MagAt w' a A) := by
    intro w' hw
    obtain ⟨_, neg0, a0, n0, cap0, hoz⟩ := hz
    refine hm.but hw.1 (fun b off e h0 => ?_)
    obtain ⟨b', off', e', hne⟩ := mag_ne hoz hm h0
    rw [e] at e'
    cases e'
    exact hne
  have HMB : Hid (∀ w', ZOk z w w' → MagAt w' b B) := by
    intro w' hw
    obtain ⟨_, neg0, a0, n0, cap0, hoz⟩ := hz
    refine hm'.but hw.1 (fun b off e h0 => ?_)
    obtain ⟨b', off', e', hne⟩ := mag_ne hoz hm' h0
    rw [e] at e'
    cases e'
    exact hne
  have HL : Hid (∀ w', Hid (ZOk z w w') → Calls Try.prog 44 #[.slice a A.length ca, .slice b B.length cb] w' fun r w1 => ∃ L' a' cap', r = .returned (.slice a' L'.length cap') ∧ Hid (MagIs (natL A * natL B) (A.length + B.length) L' a' cap' w1) ∧ Hid (ZOk z w w1)) := by
    intro w' hw
    refine (times_any A B a b ca cb w' (HMA.out _ hw.out) (HMB.out _ hw.out) hA hB hd hd').mono ?_
    rintro r w1 ⟨⟨L', a', cap', hr, h1⟩, hb1⟩
    exact ⟨L', a', cap', hr, h1, ZOk.below hw.out hb1⟩
  obtain ⟨v, hv⟩ : ∃ v, Hid (natL A * natL B = v) := ⟨_, rfl⟩
  obtain ⟨bd, hbd⟩ : ∃ bd, Hid (A.length + B.length = bd) := ⟨_, rfl⟩
  rw [hv.out, hbd.out] at HL ⊢
  have HP : Hid (∀ w1 L' a' cap', Hid (ZOk z w w1) → Hid (MagIs v bd L' a' cap' w1) → Calls Try.prog 37 #[.pointer (some ⟨z, 0, none⟩), .bool (n1 != n2), .slice a' L'.length cap'] w1 fun r w' => r = .returned (.pointer (some ⟨z, 0, none⟩)) ∧ Hid (PutIs z ((n1 != n2) && decide (v ≠ 0)) v bd w w') ∧ Hid (ZOk z w w')) := by
    intro w1 L' a' cap' h1 h2
    refine (put_is z (n1 != n2) v bd w w1 L' a' cap' h1.out h2.out (by have := hbd.out; omega)).mono ?_
    rintro r w' ⟨rfl, L', e1, e2, e3, e4⟩
    exact ⟨rfl, ⟨L', e1, e2, e3, e4⟩, ZOk.big h1.out e4 e3⟩
  obtain ⟨k, hk⟩ : ∃ k, Hid (A.length = k) := ⟨_, rfl⟩
  obtain ⟨l, hl⟩ : ∃ l, Hid (B.length = l) := ⟨_, rfl⟩
  rw [hk.out] at HL c1
  rw [hl.out] at HL c1'
  have HK : Hid (∀ w', Hid (ZOk z w w') → (w'.cell? ⟨x, 0, none⟩ = some (.bool n1) ∧ w'.cell? ⟨x, 1, none⟩ = some (.slice a k ca) ∧ w'.cell? ⟨y, 0, none⟩ = some (.bool n2) ∧ w'.cell? ⟨y, 1, none⟩ = some (.slice b l cb)) ∧ Hid (ZOk z w w')) := fun w' h => ⟨⟨h.out.1.cell c0 hxz, h.out.1.cell c1 hxz, h.out.1.cell c0' hyz, h.out.1.cell c1' hyz⟩, h⟩
  have HZ0 : Hid (ZOk z w w.drew) := hz.drew
  clear hz hA hB hm hm' hd hd' hc hc' hneg hneg' ho ho' hcap hcap' hf hf' HMA HMB hxz hyz
  cases n1 <;> cases n2
  all_goals simp only [bne_self_eq_false, Bool.false_bne, Bool.true_bne, Bool.not_false] at HP ⊢
  all_goals
    go_enter Try.func35, Try.ntmps35
    go_wp2_with fail
  · go_region_held3 (fun w' => (w'.cell? ⟨x, 0, none⟩ = some (.bool false) ∧ w'.cell? ⟨x, 1, none⟩ = some (.slice a k ca) ∧ w'.cell? ⟨y, 0, none⟩ = some (.bool false) ∧ w'.cell? ⟨y, 1, none⟩ = some (.slice b l cb)) ∧ Hid (ZOk z w w')) (exact HK.out _ (by assumption))
      (first
        | (go_at_call 44; refine (HL.out _ (And.right (by assumption))).mono ?_; rintro r w2 ⟨L', a', cap', rfl, HM, HZ2⟩)
        | (go_at_call 37; refine (HP.out _ _ _ _ (by assumption) (by assumption)).mono ?_; rintro r w3 ⟨rfl, HE, HZ3⟩))
    all_goals go_wp2
    all_goals go_ret
    all_goals exact ⟨rfl, Hid.out (by assumption)⟩
  · go_region_held3 (fun w' => (w'.cell? ⟨x, 0, none⟩ = some (.bool false) ∧ w'.cell? ⟨x, 1, none⟩ = some (.slice a k ca) ∧ w'.cell? ⟨y, 0, none⟩ = some (.bool true) ∧ w'.cell? ⟨y, 1, none⟩ = some (.slice b l cb)) ∧ Hid (ZOk z w w')) (exact HK.out _ (by assumption))
      (first
        | (go_at_call 44; refine (HL.out _ (And.right (by assumption))).mono ?_; rintro r w2 ⟨L', a', cap', rfl, HM, HZ2⟩)
        | (go_at_call 37; refine (HP.out _ _ _ _ (by assumption) (by assumption)).mono ?_; rintro r w3 ⟨rfl, HE, HZ3⟩))
    all_goals go_wp2
    all_goals go_ret
    all_goals exact ⟨rfl, Hid.out (by assumption)⟩
  · go_region_held3 (fun w' => (w'.cell? ⟨x, 0, none⟩ = some (.bool true) ∧ w'.cell? ⟨x, 1, none⟩ = some (.slice a k ca) ∧ w'.cell? ⟨y, 0, none⟩ = some (.bool false) ∧ w'.cell? ⟨y, 1, none⟩ = some (.slice b l cb)) ∧ Hid (ZOk z w w')) (exact HK.out _ (by assumption))
      (first
        | (go_at_call 44; refine (HL.out _ (And.right (by assumption))).mono ?_; rintro r w2 ⟨L', a', cap', rfl, HM, HZ2⟩)
        | (go_at_call 37; refine (HP.out _ _ _ _ (by assumption) (by assumption)).mono ?_; rintro r w3 ⟨rfl, HE, HZ3⟩))
    all_goals go_wp2
    all_goals go_ret
    all_goals exact ⟨rfl, Hid.out (by assumption)⟩
  · go_region_held3 (fun w' => (w'.cell? ⟨x, 0, none⟩ = some (.bool true) ∧ w'.cell? ⟨x, 1, none⟩ = some (.slice a k ca) ∧ w'.cell? ⟨y, 0, none⟩ = some (.bool true) ∧ w'.cell? ⟨y, 1, none⟩ = some (.slice b l cb)) ∧ Hid (ZOk z w w')) (exact HK.out _ (by assumption))
      (first
        | (go_at_call 44; refine (HL.out _ (And.right (by assumption))).mono ?_; rintro r w2 ⟨L', a', cap', rfl, HM, HZ2⟩)
        | (go_at_call 37; refine (HP.out _ _ _ _ (by assumption) (by assumption)).mono ?_; rintro r w3 ⟨rfl, HE, HZ3⟩))
    all_goals go_wp2
    all_goals go_ret
    all_goals exact ⟨rfl, Hid.out (by assumption)⟩
theorem NMul (z x y : Nat) (a b : Int) (b1 b2 : Nat) (w : World) (hz : ZOk z w w) (hxz : x ≠ z) (hyz : y ≠ z) (hx : NumAt w x a b1) (hy : NumAt w y b b2) (h1 : b1 ≤ 400000) (h2 : b2 ≤ 400000) :
    Calls Try.prog 35 #[.pointer (some ⟨z, 0, none⟩), .pointer (some ⟨x, 0, none⟩), .pointer (some ⟨y, 0, none⟩)] w fun r w' => r = .returned (.pointer (some ⟨z, 0, none⟩)) ∧ NumAt w' z (a * b) (b1 + b2) ∧ But z w w' := by
  obtain ⟨n1, A, rfl, hA, HA⟩ := hx
  obtain ⟨n2, B, rfl, hB, HB⟩ := hy
  refine (Mul_big z x y n1 n2 A B w hz hxz hyz HA HB (by omega) (by omega)).mono ?_
  rintro r w' ⟨rfl, L', e1, e2, e3, e4⟩
  refine ⟨rfl, ⟨_, L', ?_, by omega, e3⟩, e4⟩
  unfold intL
  rw [e1]
  by_cases h0 : natL A * natL B = 0
  · have hz0 : (natL A : Int) * (natL B : Int) = 0 := by rw [← Int.natCast_mul, h0]; rfl
    rw [h0]
    cases n1 <;> cases n2 <;> simp [hz0, Int.neg_mul, Int.mul_neg]
  · rw [decide_eq_true h0, Bool.and_true]
    cases n1 <;> cases n2 <;> simp [Int.natCast_mul, Int.neg_mul, Int.mul_neg]
end Go.Proofs.Ytfdphegiafccpaa
