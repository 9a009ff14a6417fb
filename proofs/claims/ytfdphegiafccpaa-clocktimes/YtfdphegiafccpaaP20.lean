
/- What the document's sum does, where both signs are the same. -/
import Derived.Test.YtfdphegiafccpaaP19
namespace Go.Proofs.Ytfdphegiafccpaa
open Go.RowKit Go.IntWalk

/-- What a function of two magnitudes needs and leaves: the cells of both numbers stay. -/
def TwoAt (w' : World) (x y : Nat) (n1 n2 : Bool) (va vb : Value) : Prop := (w'.cell? ⟨x, 0, none⟩ = some (.bool n1) ∧ w'.cell? ⟨x, 1, none⟩ = some va) ∧ (w'.cell? ⟨y, 0, none⟩ = some (.bool n2) ∧ w'.cell? ⟨y, 1, none⟩ = some vb)
theorem MagAt.below {w w' : World} {a : Option Addr} {L : List Nat} (h : MagAt w a L) (hb : Below w.heap.size w w') : MagAt w' a L :=
  h.but (But.of_below (z := w.heap.size) hb) (fun b1 off1 e h0 hbz => by
    obtain ⟨b2, off2, e2, hlt2, _⟩ := h 0 (by omega)
    rw [e] at e2
    cases e2
    omega)
set_option maxHeartbeats 1000000 in
theorem sum_same (z x y : Nat) (neg turn : Bool) (A B : List Nat) (w : World) (hz : ZOk z w w) (hx : BigAt w x neg A) (hy : BigAt w y (neg != turn) B) (hA : A.length ≤ 999999) (hB : B.length ≤ 999999) :
    Calls Try.prog 41 #[.pointer (some ⟨z, 0, none⟩), .pointer (some ⟨x, 0, none⟩), .pointer (some ⟨y, 0, none⟩), .bool turn] w fun r w' => r = .returned (.pointer (some ⟨z, 0, none⟩)) ∧ PutIs z (neg && decide (natL A + natL B ≠ 0)) (natL A + natL B) (max A.length B.length + 1) w w' := by
  obtain ⟨a, ca, ho, hcap, hm, hd, hc, hneg⟩ := hx
  obtain ⟨c0, c1, hf, hlt⟩ := int_cells ho
  obtain ⟨b, cb, ho', hcap', hm', hd', hc', hneg'⟩ := hy
  obtain ⟨c0', c1', hf', hlt'⟩ := int_cells ho'
  have HL : Hid (∀ w', Below w.heap.size w w' → Calls Try.prog 46 #[.slice a A.length ca, .slice b B.length cb] w' fun r w1 => ∃ L' a' cap', r = .returned (.slice a' L'.length cap') ∧ Hid (MagIs (natL A + natL B) (max A.length B.length + 1) L' a' cap' w1) ∧ Hid (ZOk z w w1)) := by
    intro w' hb
    refine (plus_any A B a b ca cb w' (hm.below hb) (hm'.below hb) hd hd' (by omega) (by omega)).mono ?_
    rintro r w1 ⟨⟨L', a', cap', hr, h1⟩, hb1⟩
    exact ⟨L', a', cap', hr, h1, ZOk.below hz (bl_then hb hb1)⟩
  obtain ⟨bd, hbd⟩ : ∃ bd, Hid (max A.length B.length + 1 = bd) := ⟨_, rfl⟩
  have hbdI : bd ≤ 1000000 := by have := hbd.out; omega
  obtain ⟨v, hv⟩ : ∃ v, Hid (natL A + natL B = v) := ⟨_, rfl⟩
  rw [hv.out, hbd.out] at HL ⊢
  have HP : Hid (∀ w1 L' a' cap', Hid (ZOk z w w1) → Hid (MagIs v bd L' a' cap' w1) → Calls Try.prog 37 #[.pointer (some ⟨z, 0, none⟩), .bool neg, .slice a' L'.length cap'] w1 fun r w' => r = .returned (.pointer (some ⟨z, 0, none⟩)) ∧ Hid (PutIs z (neg && decide (v ≠ 0)) v bd w w')) := by
    intro w1 L' a' cap' h1 h2
    exact put_is z neg v bd w w1 L' a' cap' h1.out h2.out (by omega)
  obtain ⟨k, hk⟩ : ∃ k, Hid (A.length = k) := ⟨_, rfl⟩
  obtain ⟨l, hl⟩ : ∃ l, Hid (B.length = l) := ⟨_, rfl⟩
  rw [hk.out] at HL c1
  rw [hl.out] at HL c1'
  have HZ : Hid (∀ m, Below w.heap.size w ((w.drewN m).drew)) := fun m => Below.drew (bl_drewN _ (Below.refl _ _))
  have HZ0 : Hid (Below w.heap.size w w.drew) := Below.drew (Below.refl _ _)
  clear hz hA hB hm hm' hd hd' hc hc' hneg hneg' ho ho' hcap hcap' hf hf' hbdI
  cases neg <;> cases turn
  all_goals
    go_enter Try.func41, Try.ntmps41
    go_wp2_with fail
  all_goals go_region_with (first
      | (go_at_call 46; refine (HL.out _ HZ0.out).mono ?_; rintro r w1 ⟨L', a', cap', rfl, HM, HZ1⟩)
      | (go_at_call 37; refine (HP.out _ _ _ _ (by assumption) (by assumption)).mono ?_; rintro r w1 ⟨rfl, HE⟩))
  all_goals go_wp2
  all_goals go_ret
  all_goals exact ⟨rfl, Hid.out (by assumption)⟩
end Go.Proofs.Ytfdphegiafccpaa
