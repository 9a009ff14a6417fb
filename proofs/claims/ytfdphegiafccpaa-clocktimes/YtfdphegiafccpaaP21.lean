
/- What the document's sum does, where the signs are unlike and the second one is the greater. -/
import Derived.Test.YtfdphegiafccpaaP20
namespace Go.Proofs.Ytfdphegiafccpaa
open Go.RowKit Go.IntWalk

set_option maxHeartbeats 4000000 in
theorem sum_less (z x y : Nat) (neg turn : Bool) (A B : List Nat) (w : World) (hz : ZOk z w w) (hx : BigAt w x neg A) (hy : BigAt w y (neg == turn) B) (hA : A.length ≤ 999999) (hB : B.length ≤ 999999) (hle : natL A < natL B) :
    Calls Try.prog 41 #[.pointer (some ⟨z, 0, none⟩), .pointer (some ⟨x, 0, none⟩), .pointer (some ⟨y, 0, none⟩), .bool turn] w fun r w' => r = .returned (.pointer (some ⟨z, 0, none⟩)) ∧ PutIs z (!neg && decide (natL B - natL A ≠ 0)) (natL B - natL A) B.length w w' := by
  obtain ⟨a, ca, ho, hcap, hm, hd, hc, hneg⟩ := hx
  obtain ⟨c0, c1, hf, hlt⟩ := int_cells ho
  obtain ⟨b, cb, ho', hcap', hm', hd', hc', hneg'⟩ := hy
  obtain ⟨c0', c1', hf', hlt'⟩ := int_cells ho'
  have HC : Hid (∀ w', Below w.heap.size w w' → Calls Try.prog 39 #[.slice a A.length ca, .slice b B.length cb] w' fun r w1 => r = .returned (.int .i64 (-1)) ∧ Hid (Below w.heap.size w w1) ∧ w1.cell? ⟨x, 1, none⟩ = some (.slice a A.length ca) ∧ w1.cell? ⟨y, 1, none⟩ = some (.slice b B.length cb)) := by
    intro w' hb
    refine (bcompare_any A B a b ca cb w' (hm.below hb) (hm'.below hb) hd hd' hc hc' (by omega) (by omega)).mono ?_
    rintro r w1 ⟨rfl, hb1⟩
    have hb2 := bl_then hb hb1
    exact ⟨by rw [cmpI_lt hle], hb2, by rw [hb2.cell (p := ⟨x, 1, none⟩) hlt]; exact c1, by rw [hb2.cell (p := ⟨y, 1, none⟩) hlt']; exact c1'⟩
  have HL : Hid (∀ w', Hid (Below w.heap.size w w') → Calls Try.prog 49 #[.slice b B.length cb, .slice a A.length ca] w'.drew fun r w1 => ∃ L' a' cap', r = .returned (.slice a' L'.length cap') ∧ Hid (MagIs (natL B - natL A) B.length L' a' cap' w1) ∧ Hid (ZOk z w w1)) := by
    intro w' hb0
    have hb := hb0.out.drew
    refine (minus_any B A b a cb ca w'.drew (hm'.below hb) (hm.below hb) hd' hd hc (by omega) (by omega)).mono ?_
    rintro r w1 ⟨⟨L', a', cap', hr, h1⟩, hb1⟩
    exact ⟨L', a', cap', hr, h1, ZOk.below hz (bl_then hb hb1)⟩
  obtain ⟨v, hv⟩ : ∃ v, Hid (natL B - natL A = v) := ⟨_, rfl⟩
  rw [hv.out] at HL ⊢
  have HP : Hid (∀ w1 L' a' cap', Hid (ZOk z w w1) → Hid (MagIs v B.length L' a' cap' w1) → Calls Try.prog 37 #[.pointer (some ⟨z, 0, none⟩), .bool (!neg), .slice a' L'.length cap'] w1 fun r w' => r = .returned (.pointer (some ⟨z, 0, none⟩)) ∧ Hid (PutIs z (!neg && decide (v ≠ 0)) v B.length w w')) := by
    intro w1 L' a' cap' h1 h2
    exact put_is z (!neg) v B.length w w1 L' a' cap' h1.out h2.out (by omega)
  obtain ⟨k, hk⟩ : ∃ k, Hid (A.length = k) := ⟨_, rfl⟩
  obtain ⟨l, hl⟩ : ∃ l, Hid (B.length = l) := ⟨_, rfl⟩
  rw [hk.out] at HL HC c1
  rw [hl.out] at HL HC HP c1' ⊢
  have HZ : Hid (∀ m, Below w.heap.size w ((w.drewN m).drew)) := fun m => Below.drew (bl_drewN _ (Below.refl _ _))
  have HZ0 : Hid (Below w.heap.size w w.drew) := Below.drew (Below.refl _ _)
  clear hz hA hB hm hm' hd hd' hc hc' hneg hneg' ho ho' hcap hcap' hf hf' hle
  cases neg <;> cases turn
  all_goals
    go_enter Try.func41, Try.ntmps41
    go_wp2_with fail
  all_goals go_region_with (first
      | (go_at_call 39; refine (HC.out _ HZ0.out).mono ?_; rintro r w1 ⟨rfl, HB1, k1, k2⟩))
  all_goals go_wp2_with fail
  all_goals go_region_with (first
      | (go_at_call 49; refine (HL.out _ (by assumption)).mono ?_; rintro r w1 ⟨L', a', cap', rfl, HM, HZ1⟩)
      | (go_at_call 37; refine (HP.out _ _ _ _ (by assumption) (by assumption)).mono ?_; rintro r w1 ⟨rfl, HE⟩))
  all_goals go_wp2
  all_goals go_ret
  all_goals exact ⟨rfl, Hid.out (by assumption)⟩
end Go.Proofs.Ytfdphegiafccpaa
