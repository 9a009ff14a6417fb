
/- What the document's sum does, where the signs are unlike and the first one is not the less, into any place; Add and Sub of any two numbers into any place. -/
import Derived.Test.YtfdphegiafccpaaP34
namespace Go.Proofs.Ytfdphegiafccpaa
open Go.RowKit Go.IntWalk

set_option maxHeartbeats 8000000 in
theorem sum_geA (z x y : Nat) (neg turn : Bool) (A B : List Nat) (w : World) (hz : ZOk z w w) (hx : BigAt w x neg A) (hy : BigAt w y (neg == turn) B) (hA : A.length ≤ 999999) (hB : B.length ≤ 999999) (hle : natL B ≤ natL A) :
    Calls Try.prog 41 #[.pointer (some ⟨z, 0, none⟩), .pointer (some ⟨x, 0, none⟩), .pointer (some ⟨y, 0, none⟩), .bool turn] w fun r w' => r = .returned (.pointer (some ⟨z, 0, none⟩)) ∧ PutIs z (neg && decide (natL A - natL B ≠ 0)) (natL A - natL B) A.length w w' := by
  obtain ⟨a, ca, ho, hcap, hm, hd, hc, hneg⟩ := hx
  obtain ⟨c0, c1, hf, hlt⟩ := int_cells ho
  obtain ⟨b, cb, ho', hcap', hm', hd', hc', hneg'⟩ := hy
  obtain ⟨c0', c1', hf', hlt'⟩ := int_cells ho'
  obtain ⟨cc, hcc⟩ : ∃ cc, Hid (cmpI (natL A) (natL B) = cc) := ⟨_, rfl⟩
  have hc0 : 0 ≤ cc := by rw [← hcc.out]; unfold cmpI; rw [if_neg (by omega)]; split <;> omega
  have HC : Hid (∀ w', Hid (Below w.heap.size w w') → Calls Try.prog 39 #[.slice a A.length ca, .slice b B.length cb] w' fun r w1 => r = .returned (.int .i64 cc) ∧ Hid (Below w.heap.size w w1)) := fun w' hb => by
    refine (bcompare_any A B a b ca cb w' (hm.below hb.out) (hm'.below hb.out) hd hd' hc hc' (by omega) (by omega)).mono ?_
    rintro r w1 ⟨rfl, hb1⟩
    exact ⟨by rw [hcc.out], bl_then hb.out hb1⟩
  have HL : Hid (∀ w', Hid (Below w.heap.size w w') → Calls Try.prog 49 #[.slice a A.length ca, .slice b B.length cb] w' fun r w1 => ∃ L' a' cap', r = .returned (.slice a' L'.length cap') ∧ Hid (MagIs (natL A - natL B) A.length L' a' cap' w1) ∧ Hid (ZOk z w w1) ∧ w1.cell? ⟨x, 0, none⟩ = some (.bool neg)) := fun w' hb => by
    refine (minus_any A B a b ca cb w' (hm.below hb.out) (hm'.below hb.out) hd hd' hc' (by omega) (by omega)).mono ?_
    rintro r w1 ⟨⟨L', a', cap', hr, h1⟩, hb1⟩
    have hb2 := bl_then hb.out hb1
    exact ⟨L', a', cap', hr, h1, ZOk.below hz hb2, by rw [hb2.cell (p := ⟨x, 0, none⟩) hlt]; exact c0⟩
  obtain ⟨v, hv⟩ : ∃ v, Hid (natL A - natL B = v) := ⟨_, rfl⟩
  rw [hv.out] at HL ⊢
  have HP : Hid (∀ w1 L' a' cap', Hid (ZOk z w w1) → Hid (MagIs v A.length L' a' cap' w1) → Calls Try.prog 37 #[.pointer (some ⟨z, 0, none⟩), .bool neg, .slice a' L'.length cap'] w1 fun r w' => r = .returned (.pointer (some ⟨z, 0, none⟩)) ∧ Hid (PutIs z (neg && decide (v ≠ 0)) v A.length w w')) := by
    intro w1 L' a' cap' h1 h2
    exact put_is z neg v A.length w w1 L' a' cap' h1.out h2.out (by omega)
  obtain ⟨k, hk⟩ : ∃ k, Hid (A.length = k) := ⟨_, rfl⟩
  obtain ⟨l, hl⟩ : ∃ l, Hid (B.length = l) := ⟨_, rfl⟩
  rw [hk.out] at HL HC HP c1 ⊢
  rw [hl.out] at HL HC c1'
  have HK : Hid (∀ w', Hid (Below w.heap.size w w') → (w'.cell? ⟨x, 0, none⟩ = some (.bool neg) ∧ w'.cell? ⟨x, 1, none⟩ = some (.slice a k ca) ∧ w'.cell? ⟨y, 1, none⟩ = some (.slice b l cb)) ∧ Hid (Below w.heap.size w w')) := fun w' h => by
    refine ⟨⟨?_, ?_, ?_⟩, h⟩
    · rw [h.out.cell (p := ⟨x, 0, none⟩) hlt]; exact c0
    · rw [h.out.cell (p := ⟨x, 1, none⟩) hlt]; exact c1
    · rw [h.out.cell (p := ⟨y, 1, none⟩) hlt']; exact c1'
  have HZ0 : Hid (Below w.heap.size w w.drew) := (Below.refl _ _).drew
  clear hz hA hB hm hm' hd hd' hc hc' hneg hneg' ho ho' hcap hcap' hf hf' hle
  cases neg <;> cases turn
  · go_enter Try.func41, Try.ntmps41
    go_wp2_with fail
    go_region_held3 (fun w' => (w'.cell? ⟨x, 0, none⟩ = some (.bool false) ∧ w'.cell? ⟨x, 1, none⟩ = some (.slice a k ca) ∧ w'.cell? ⟨y, 1, none⟩ = some (.slice b l cb)) ∧ Hid (Below w.heap.size w w')) ((refine HK.out _ ?_; first | with_reducible assumption | with_reducible exact HZ0))
      (first | (go_at_call 39; refine (HC.out _ (And.right (by assumption))).mono ?_; rintro r w1 ⟨rfl, HB1⟩) | fail)
    obtain ⟨⟨k0, k1, k2⟩, _⟩ := HK.out w1 HB1
    have HB1D : Hid (Below w.heap.size w w1.drew) := HB1.out.drew
    clear c0 c1 c0' c1'
    go_wp2_with fail
    go_region_with (first
      | (go_at_call 49; refine (HL.out _ HB1D).mono ?_; rintro r w2 ⟨L', a', cap', rfl, HM, HZ2, k3⟩)
      | (go_at_call 37; refine (HP.out _ _ _ _ (by assumption) (by assumption)).mono ?_; rintro r w3 ⟨rfl, HE⟩)
      | fail)
    all_goals go_wp2
    all_goals go_ret
    all_goals exact ⟨rfl, Hid.out (by assumption)⟩
  · go_enter Try.func41, Try.ntmps41
    go_wp2_with fail
    go_region_held3 (fun w' => (w'.cell? ⟨x, 0, none⟩ = some (.bool false) ∧ w'.cell? ⟨x, 1, none⟩ = some (.slice a k ca) ∧ w'.cell? ⟨y, 1, none⟩ = some (.slice b l cb)) ∧ Hid (Below w.heap.size w w')) ((refine HK.out _ ?_; first | with_reducible assumption | with_reducible exact HZ0))
      (first | (go_at_call 39; refine (HC.out _ (And.right (by assumption))).mono ?_; rintro r w1 ⟨rfl, HB1⟩) | fail)
    obtain ⟨⟨k0, k1, k2⟩, _⟩ := HK.out w1 HB1
    have HB1D : Hid (Below w.heap.size w w1.drew) := HB1.out.drew
    clear c0 c1 c0' c1'
    go_wp2_with fail
    go_region_with (first
      | (go_at_call 49; refine (HL.out _ HB1D).mono ?_; rintro r w2 ⟨L', a', cap', rfl, HM, HZ2, k3⟩)
      | (go_at_call 37; refine (HP.out _ _ _ _ (by assumption) (by assumption)).mono ?_; rintro r w3 ⟨rfl, HE⟩)
      | fail)
    all_goals go_wp2
    all_goals go_ret
    all_goals exact ⟨rfl, Hid.out (by assumption)⟩
  · go_enter Try.func41, Try.ntmps41
    go_wp2_with fail
    go_region_held3 (fun w' => (w'.cell? ⟨x, 0, none⟩ = some (.bool true) ∧ w'.cell? ⟨x, 1, none⟩ = some (.slice a k ca) ∧ w'.cell? ⟨y, 1, none⟩ = some (.slice b l cb)) ∧ Hid (Below w.heap.size w w')) ((refine HK.out _ ?_; first | with_reducible assumption | with_reducible exact HZ0))
      (first | (go_at_call 39; refine (HC.out _ (And.right (by assumption))).mono ?_; rintro r w1 ⟨rfl, HB1⟩) | fail)
    obtain ⟨⟨k0, k1, k2⟩, _⟩ := HK.out w1 HB1
    have HB1D : Hid (Below w.heap.size w w1.drew) := HB1.out.drew
    clear c0 c1 c0' c1'
    go_wp2_with fail
    go_region_with (first
      | (go_at_call 49; refine (HL.out _ HB1D).mono ?_; rintro r w2 ⟨L', a', cap', rfl, HM, HZ2, k3⟩)
      | (go_at_call 37; refine (HP.out _ _ _ _ (by assumption) (by assumption)).mono ?_; rintro r w3 ⟨rfl, HE⟩)
      | fail)
    all_goals go_wp2
    all_goals go_ret
    all_goals exact ⟨rfl, Hid.out (by assumption)⟩
  · go_enter Try.func41, Try.ntmps41
    go_wp2_with fail
    go_region_held3 (fun w' => (w'.cell? ⟨x, 0, none⟩ = some (.bool true) ∧ w'.cell? ⟨x, 1, none⟩ = some (.slice a k ca) ∧ w'.cell? ⟨y, 1, none⟩ = some (.slice b l cb)) ∧ Hid (Below w.heap.size w w')) ((refine HK.out _ ?_; first | with_reducible assumption | with_reducible exact HZ0))
      (first | (go_at_call 39; refine (HC.out _ (And.right (by assumption))).mono ?_; rintro r w1 ⟨rfl, HB1⟩) | fail)
    obtain ⟨⟨k0, k1, k2⟩, _⟩ := HK.out w1 HB1
    have HB1D : Hid (Below w.heap.size w w1.drew) := HB1.out.drew
    clear c0 c1 c0' c1'
    go_wp2_with fail
    go_region_with (first
      | (go_at_call 49; refine (HL.out _ HB1D).mono ?_; rintro r w2 ⟨L', a', cap', rfl, HM, HZ2, k3⟩)
      | (go_at_call 37; refine (HP.out _ _ _ _ (by assumption) (by assumption)).mono ?_; rintro r w3 ⟨rfl, HE⟩)
      | fail)
    all_goals go_wp2
    all_goals go_ret
    all_goals exact ⟨rfl, Hid.out (by assumption)⟩
theorem sum_anyA (z x y : Nat) (n1 n2 turn : Bool) (A B : List Nat) (w : World) (hz : ZOk z w w) (hx : BigAt w x n1 A) (hy : BigAt w y n2 B) (hA : A.length ≤ 999999) (hB : B.length ≤ 999999) :
    Calls Try.prog 41 #[.pointer (some ⟨z, 0, none⟩), .pointer (some ⟨x, 0, none⟩), .pointer (some ⟨y, 0, none⟩), .bool turn] w fun r w' => r = .returned (.pointer (some ⟨z, 0, none⟩)) ∧ PutZ z (intL n1 A + (if turn = true then -intL n2 B else intL n2 B)) (max A.length B.length + 1) w w' := by
  by_cases hs : n2 = (n1 != turn)
  · exact sum_any z x y n1 n2 turn A B w hz (.inl hs) hx hy hA hB
  · have hs' : n2 = (n1 == turn) := by cases n1 <;> cases n2 <;> cases turn <;> simp_all
    subst hs'
    by_cases hlt : natL A < natL B
    · refine (sum_less z x y n1 turn A B w hz hx hy hA hB hlt).mono ?_
      rintro r w' ⟨rfl, h⟩
      refine ⟨rfl, h.toZ ?_ (by omega)⟩
      unfold intL
      rw [decide_eq_true (show natL B - natL A ≠ 0 by omega), Bool.and_true]
      cases n1 <;> cases turn <;> simp <;> omega
    · refine (sum_geA z x y n1 turn A B w hz hx hy hA hB (by omega)).mono ?_
      rintro r w' ⟨rfl, h⟩
      refine ⟨rfl, h.toZ ?_ (by omega)⟩
      unfold intL
      by_cases h0 : natL A - natL B = 0
      · rw [h0]
        cases n1 <;> cases turn <;> simp <;> omega
      · rw [decide_eq_true h0, Bool.and_true]
        cases n1 <;> cases turn <;> simp <;> omega
set_option maxHeartbeats 400000 in
theorem NAddA (z x y : Nat) (a b : Int) (b1 b2 : Nat) (w : World) (hz : ZOk z w w) (hx : NumAt w x a b1) (hy : NumAt w y b b2) (h1 : b1 ≤ 900000) (h2 : b2 ≤ 900000) :
    Calls Try.prog 32 #[.pointer (some ⟨z, 0, none⟩), .pointer (some ⟨x, 0, none⟩), .pointer (some ⟨y, 0, none⟩)] w fun r w' => r = .returned (.pointer (some ⟨z, 0, none⟩)) ∧ NumAt w' z (a + b) (max b1 b2 + 1) ∧ But z w w' := by
  obtain ⟨n1, A, rfl, hA, HA⟩ := hx
  obtain ⟨n2, B, rfl, hB, HB⟩ := hy
  have HS := hid (sum_anyA z x y n1 n2 false A B w hz HA HB (by omega) (by omega))
  have HV : Hid (∀ w', PutZ z (intL n1 A + intL n2 B) (max A.length B.length + 1) w w' → NumAt w' z (intL n1 A + intL n2 B) (max b1 b2 + 1) ∧ But z w w') := fun w' h => ⟨h.num.1.more (by omega), h.num.2⟩
  generalize intL n1 A = va at *
  generalize intL n2 B = vb at *
  clear hz HA HB hA hB h1 h2
  go_enter Try.func32, Try.ntmps32
  go_wp2_with fail
  refine HS.out.mono ?_
  rintro r w1 ⟨rfl, HE⟩
  have HE := hid HE
  go_wp2
  go_ret
  exact ⟨rfl, HV.out _ HE.out⟩
end Go.Proofs.Ytfdphegiafccpaa
