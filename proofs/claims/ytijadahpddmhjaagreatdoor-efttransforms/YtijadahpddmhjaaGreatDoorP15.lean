
/- What the document's sum does, where both signs are the same. -/
import Derived.Test.YtijadahpddmhjaaGreatDoorP14
import Derived.Test.YtijadahpddmhjaaGreatDoorP11
import Derived.Test.YtijadahpddmhjaaGreatDoorP13
namespace Go.Proofs.YtijadahpddmhjaaGreatDoor
open Go.RowKit Go.IntWalk

/-- What a function of two magnitudes needs and leaves: the cells of both numbers stay. -/
def TwoAt (w' : World) (x y : Nat) (n1 n2 : Bool) (va vb : Value) : Prop := (w'.cell? ⟨x, 0, none⟩ = some (.bool n1) ∧ w'.cell? ⟨x, 1, none⟩ = some va) ∧ (w'.cell? ⟨y, 0, none⟩ = some (.bool n2) ∧ w'.cell? ⟨y, 1, none⟩ = some vb)
theorem MagAt.below {w w' : World} {a : Option Addr} {L : List Nat} (h : MagAt w a L) (hb : Below w.heap.size w w') : MagAt w' a L :=
  h.but (But.of_below (z := w.heap.size) hb) (fun b1 off1 e h0 hbz => by
    obtain ⟨b2, off2, e2, hlt2, _⟩ := h 0 (by omega)
    rw [e] at e2
    cases e2
    omega)
set_option maxHeartbeats 1000000 in
theorem sum_same (z x y : Nat) (neg turn : Bool) (A B : List Nat) (w : World) (hz : ZOk z w w) (hx : BigAt w x neg A) (hy : BigAt w y (neg != turn) B) (hA : A.length ≤ 999999) (hB : B.length ≤ 999999) :
    Calls Tryz.prog 87 #[.pointer (some ⟨z, 0, none⟩), .pointer (some ⟨x, 0, none⟩), .pointer (some ⟨y, 0, none⟩), .bool turn] w fun r w' => r = .returned (.pointer (some ⟨z, 0, none⟩)) ∧ PutIs z (neg && decide (natL A + natL B ≠ 0)) (natL A + natL B) (max A.length B.length + 1) w w' := by
  obtain ⟨a, ca, ho, hcap, hm, hd, hc, hneg⟩ := hx
  obtain ⟨c0, c1, hf, hlt⟩ := int_cells ho
  obtain ⟨b, cb, ho', hcap', hm', hd', hc', hneg'⟩ := hy
  obtain ⟨c0', c1', hf', hlt'⟩ := int_cells ho'
  have HL : Hid (∀ w', Below w.heap.size w w' → Calls Tryz.prog 84 #[.slice a A.length ca, .slice b B.length cb] w' fun r w1 => ∃ L' a' cap', r = .returned (.slice a' L'.length cap') ∧ Hid (MagIs (natL A + natL B) (max A.length B.length + 1) L' a' cap' w1) ∧ Hid (ZOk z w w1)) := by
    intro w' hb
    refine (plus_any A B a b ca cb w' (hm.below hb) (hm'.below hb) hd hd' (by omega) (by omega)).mono ?_
    rintro r w1 ⟨⟨L', a', cap', hr, h1⟩, hb1⟩
    exact ⟨L', a', cap', hr, h1, ZOk.below hz (bl_then hb hb1)⟩
  obtain ⟨bd, hbd⟩ : ∃ bd, Hid (max A.length B.length + 1 = bd) := ⟨_, rfl⟩
  have hbdI : bd ≤ 1000000 := by have := hbd.out; omega
  obtain ⟨v, hv⟩ : ∃ v, Hid (natL A + natL B = v) := ⟨_, rfl⟩
  rw [hv.out, hbd.out] at HL ⊢
  have HP : Hid (∀ w1 L' a' cap', Hid (ZOk z w w1) → Hid (MagIs v bd L' a' cap' w1) → Calls Tryz.prog 77 #[.pointer (some ⟨z, 0, none⟩), .bool neg, .slice a' L'.length cap'] w1 fun r w' => r = .returned (.pointer (some ⟨z, 0, none⟩)) ∧ Hid (PutIs z (neg && decide (v ≠ 0)) v bd w w')) := by
    intro w1 L' a' cap' h1 h2
    exact put_is z neg v bd w w1 L' a' cap' h1.out h2.out (by omega)
  obtain ⟨k, hk⟩ : ∃ k, Hid (A.length = k) := ⟨_, rfl⟩
  obtain ⟨l, hl⟩ : ∃ l, Hid (B.length = l) := ⟨_, rfl⟩
  rw [hk.out] at HL c1
  rw [hl.out] at HL c1'
  have HZ : Hid (∀ m, Below w.heap.size w ((w.drewN m).drew)) := fun m => Below.drew (bl_drewN _ (Below.refl _ _))
  have HZ0 : Hid (Below w.heap.size w w.drew) := Below.drew (Below.refl _ _)
  clear hz hA hB hm hm' hd hd' hc hc' hneg hneg' ho ho' hcap hcap' hf hf' hbdI
  cases neg <;> cases turn
  all_goals
    go_enter Tryz.func87, Tryz.ntmps87
    go_wp2_with fail
  all_goals go_region_with (first
      | (go_at_call 84; refine (HL.out _ HZ0.out).mono ?_; rintro r w1 ⟨L', a', cap', rfl, HM, HZ1⟩)
      | (go_at_call 77; refine (HP.out _ _ _ _ (by assumption) (by assumption)).mono ?_; rintro r w1 ⟨rfl, HE⟩))
  all_goals go_wp2
  all_goals go_ret
  all_goals exact ⟨rfl, Hid.out (by assumption)⟩
end Go.Proofs.YtijadahpddmhjaaGreatDoor

namespace Go.Proofs.YtijadahpddmhjaaGreatDoor
open Go.RowKit Go.IntWalk

set_option maxHeartbeats 4000000 in
theorem sum_less (z x y : Nat) (neg turn : Bool) (A B : List Nat) (w : World) (hz : ZOk z w w) (hx : BigAt w x neg A) (hy : BigAt w y (neg == turn) B) (hA : A.length ≤ 999999) (hB : B.length ≤ 999999) (hle : natL A < natL B) :
    Calls Tryz.prog 87 #[.pointer (some ⟨z, 0, none⟩), .pointer (some ⟨x, 0, none⟩), .pointer (some ⟨y, 0, none⟩), .bool turn] w fun r w' => r = .returned (.pointer (some ⟨z, 0, none⟩)) ∧ PutIs z (!neg && decide (natL B - natL A ≠ 0)) (natL B - natL A) B.length w w' := by
  obtain ⟨a, ca, ho, hcap, hm, hd, hc, hneg⟩ := hx
  obtain ⟨c0, c1, hf, hlt⟩ := int_cells ho
  obtain ⟨b, cb, ho', hcap', hm', hd', hc', hneg'⟩ := hy
  obtain ⟨c0', c1', hf', hlt'⟩ := int_cells ho'
  have HC : Hid (∀ w', Below w.heap.size w w' → Calls Tryz.prog 101 #[.slice a A.length ca, .slice b B.length cb] w' fun r w1 => r = .returned (.int .i64 (-1)) ∧ Hid (Below w.heap.size w w1) ∧ w1.cell? ⟨x, 1, none⟩ = some (.slice a A.length ca) ∧ w1.cell? ⟨y, 1, none⟩ = some (.slice b B.length cb)) := by
    intro w' hb
    refine (bcompare_any A B a b ca cb w' (hm.below hb) (hm'.below hb) hd hd' hc hc' (by omega) (by omega)).mono ?_
    rintro r w1 ⟨rfl, hb1⟩
    have hb2 := bl_then hb hb1
    exact ⟨by rw [cmpI_lt hle], hb2, by rw [hb2.cell (p := ⟨x, 1, none⟩) hlt]; exact c1, by rw [hb2.cell (p := ⟨y, 1, none⟩) hlt']; exact c1'⟩
  have HL : Hid (∀ w', Hid (Below w.heap.size w w') → Calls Tryz.prog 83 #[.slice b B.length cb, .slice a A.length ca] w'.drew fun r w1 => ∃ L' a' cap', r = .returned (.slice a' L'.length cap') ∧ Hid (MagIs (natL B - natL A) B.length L' a' cap' w1) ∧ Hid (ZOk z w w1)) := by
    intro w' hb0
    have hb := hb0.out.drew
    refine (minus_any B A b a cb ca w'.drew (hm'.below hb) (hm.below hb) hd' hd hc (by omega) (by omega)).mono ?_
    rintro r w1 ⟨⟨L', a', cap', hr, h1⟩, hb1⟩
    exact ⟨L', a', cap', hr, h1, ZOk.below hz (bl_then hb hb1)⟩
  obtain ⟨v, hv⟩ : ∃ v, Hid (natL B - natL A = v) := ⟨_, rfl⟩
  rw [hv.out] at HL ⊢
  have HP : Hid (∀ w1 L' a' cap', Hid (ZOk z w w1) → Hid (MagIs v B.length L' a' cap' w1) → Calls Tryz.prog 77 #[.pointer (some ⟨z, 0, none⟩), .bool (!neg), .slice a' L'.length cap'] w1 fun r w' => r = .returned (.pointer (some ⟨z, 0, none⟩)) ∧ Hid (PutIs z (!neg && decide (v ≠ 0)) v B.length w w')) := by
    intro w1 L' a' cap' h1 h2
    exact put_is z (!neg) v B.length w w1 L' a' cap' h1.out h2.out (by omega)
  obtain ⟨k, hk⟩ : ∃ k, Hid (A.length = k) := ⟨_, rfl⟩
  obtain ⟨l, hl⟩ : ∃ l, Hid (B.length = l) := ⟨_, rfl⟩
  rw [hk.out] at HL HC c1
  rw [hl.out] at HL HC HP c1' ⊢
  have HZ : Hid (∀ m, Below w.heap.size w ((w.drewN m).drew)) := fun m => Below.drew (bl_drewN _ (Below.refl _ _))
  have HZ0 : Hid (Below w.heap.size w w.drew) := Below.drew (Below.refl _ _)
  clear hz hA hB hm hm' hd hd' hc hc' hneg hneg' ho ho' hcap hcap' hf hf' hle
  cases neg <;> cases turn
  all_goals
    go_enter Tryz.func87, Tryz.ntmps87
    go_wp2_with fail
  all_goals go_region_with (first
      | (go_at_call 101; refine (HC.out _ HZ0.out).mono ?_; rintro r w1 ⟨rfl, HB1, k1, k2⟩))
  all_goals go_wp2_with fail
  all_goals go_region_with (first
      | (go_at_call 83; refine (HL.out _ (by assumption)).mono ?_; rintro r w1 ⟨L', a', cap', rfl, HM, HZ1⟩)
      | (go_at_call 77; refine (HP.out _ _ _ _ (by assumption) (by assumption)).mono ?_; rintro r w1 ⟨rfl, HE⟩))
  all_goals go_wp2
  all_goals go_ret
  all_goals exact ⟨rfl, Hid.out (by assumption)⟩
end Go.Proofs.YtijadahpddmhjaaGreatDoor

namespace Go.Proofs.YtijadahpddmhjaaGreatDoor
open Go.RowKit Go.IntWalk

set_option maxHeartbeats 4000000 in
theorem sum_ge (z x y : Nat) (neg turn : Bool) (A B : List Nat) (w : World) (hz : ZOk z w w) (hxz : x ≠ z) (hyz : y ≠ z) (hx : BigAt w x neg A) (hy : BigAt w y (neg == turn) B) (hA : A.length ≤ 999999) (hB : B.length ≤ 999999) (hle : natL B ≤ natL A) :
    Calls Tryz.prog 87 #[.pointer (some ⟨z, 0, none⟩), .pointer (some ⟨x, 0, none⟩), .pointer (some ⟨y, 0, none⟩), .bool turn] w fun r w' => r = .returned (.pointer (some ⟨z, 0, none⟩)) ∧ PutIs z (neg && decide (natL A - natL B ≠ 0)) (natL A - natL B) A.length w w' := by
  obtain ⟨a, ca, ho, hcap, hm, hd, hc, hneg⟩ := hx
  obtain ⟨c0, c1, hf, hlt⟩ := int_cells ho
  obtain ⟨b, cb, ho', hcap', hm', hd', hc', hneg'⟩ := hy
  obtain ⟨c0', c1', hf', hlt'⟩ := int_cells ho'
  obtain ⟨cc, hcc⟩ : ∃ cc, Hid (cmpI (natL A) (natL B) = cc) := ⟨_, rfl⟩
  have hc0 : 0 ≤ cc := by rw [← hcc.out]; unfold cmpI; rw [if_neg (by omega)]; split <;> omega
  have HMA : Hid (∀ w', ZOk z w w' → MagAt w' a A) := by
    intro w' hw
    obtain ⟨_, neg0, a0, n0, cap0, hoz⟩ := hz
    refine hm.but hw.1 (fun b off e h0 => ?_)
    obtain ⟨b', off', e', hne⟩ := mag_ne hoz hm h0
    rw [e] at e'
    cases e'
    exact hne
  have HMB : Hid (∀ w', ZOk z w w' → MagAt w' b B) := by
    intro w' hw
    obtain ⟨_, neg0, a0, n0, cap0, hoz⟩ := hz
    refine hm'.but hw.1 (fun b off e h0 => ?_)
    obtain ⟨b', off', e', hne⟩ := mag_ne hoz hm' h0
    rw [e] at e'
    cases e'
    exact hne
  have HC : Hid (∀ w', Hid (ZOk z w w') → Calls Tryz.prog 101 #[.slice a A.length ca, .slice b B.length cb] w' fun r w1 => r = .returned (.int .i64 cc) ∧ Hid (ZOk z w w1)) := by
    intro w' hw
    refine (bcompare_any A B a b ca cb w' (HMA.out _ hw.out) (HMB.out _ hw.out) hd hd' hc hc' (by omega) (by omega)).mono ?_
    rintro r w1 ⟨rfl, hb1⟩
    exact ⟨by rw [hcc.out], ZOk.below hw.out hb1⟩
  have HL : Hid (∀ w', Hid (ZOk z w w') → Calls Tryz.prog 83 #[.slice a A.length ca, .slice b B.length cb] w' fun r w1 => ∃ L' a' cap', r = .returned (.slice a' L'.length cap') ∧ Hid (MagIs (natL A - natL B) A.length L' a' cap' w1) ∧ Hid (ZOk z w w1)) := by
    intro w' hw
    refine (minus_any A B a b ca cb w' (HMA.out _ hw.out) (HMB.out _ hw.out) hd hd' hc' (by omega) (by omega)).mono ?_
    rintro r w1 ⟨⟨L', a', cap', hr, h1⟩, hb1⟩
    exact ⟨L', a', cap', hr, h1, ZOk.below hw.out hb1⟩
  obtain ⟨v, hv⟩ : ∃ v, Hid (natL A - natL B = v) := ⟨_, rfl⟩
  rw [hv.out] at HL ⊢
  have HP : Hid (∀ w1 L' a' cap', Hid (ZOk z w w1) → Hid (MagIs v A.length L' a' cap' w1) → Calls Tryz.prog 77 #[.pointer (some ⟨z, 0, none⟩), .bool neg, .slice a' L'.length cap'] w1 fun r w' => r = .returned (.pointer (some ⟨z, 0, none⟩)) ∧ Hid (PutIs z (neg && decide (v ≠ 0)) v A.length w w') ∧ Hid (ZOk z w w')) := by
    intro w1 L' a' cap' h1 h2
    refine (put_is z neg v A.length w w1 L' a' cap' h1.out h2.out (by omega)).mono ?_
    rintro r w' ⟨rfl, L', e1, e2, e3, e4⟩
    exact ⟨rfl, ⟨L', e1, e2, e3, e4⟩, ZOk.big h1.out e4 e3⟩
  obtain ⟨k, hk⟩ : ∃ k, Hid (A.length = k) := ⟨_, rfl⟩
  obtain ⟨l, hl⟩ : ∃ l, Hid (B.length = l) := ⟨_, rfl⟩
  rw [hk.out] at HL HC HP c1 ⊢
  rw [hl.out] at HL HC c1'
  have HK : Hid (∀ w', Hid (ZOk z w w') → (w'.cell? ⟨x, 0, none⟩ = some (.bool neg) ∧ w'.cell? ⟨x, 1, none⟩ = some (.slice a k ca) ∧ w'.cell? ⟨y, 1, none⟩ = some (.slice b l cb)) ∧ Hid (ZOk z w w')) := fun w' h => ⟨⟨h.out.1.cell c0 hxz, h.out.1.cell c1 hxz, h.out.1.cell c1' hyz⟩, h⟩
  have HZ0 : Hid (ZOk z w w.drew) := hz.drew
  have HZD : Hid (∀ w1, Hid (ZOk z w w1) → Hid (ZOk z w w1.drew)) := fun w1 h => h.out.drew
  clear hz hA hB hm hm' hd hd' hc hc' hneg hneg' ho ho' hcap hcap' hf hf' hle HMA HMB hxz hyz
  cases neg <;> cases turn
  all_goals
    go_enter Tryz.func87, Tryz.ntmps87
    go_wp2_with fail
  · go_region_held3 (fun w' => (w'.cell? ⟨x, 0, none⟩ = some (.bool false) ∧ w'.cell? ⟨x, 1, none⟩ = some (.slice a k ca) ∧ w'.cell? ⟨y, 1, none⟩ = some (.slice b l cb)) ∧ Hid (ZOk z w w')) (exact HK.out _ (by assumption))
      (first | (go_at_call 101; refine (HC.out _ (And.right (by assumption))).mono ?_; rintro r w1 ⟨rfl, HB1⟩))
    have HZ1 := HZD.out _ HB1
    go_wp2_with fail
    go_region_held3 (fun w' => (w'.cell? ⟨x, 0, none⟩ = some (.bool false) ∧ w'.cell? ⟨x, 1, none⟩ = some (.slice a k ca) ∧ w'.cell? ⟨y, 1, none⟩ = some (.slice b l cb)) ∧ Hid (ZOk z w w')) (exact HK.out _ (by assumption))
      (first
        | (go_at_call 83; refine (HL.out _ (And.right (by assumption))).mono ?_; rintro r w2 ⟨L', a', cap', rfl, HM, HZ2⟩)
        | (go_at_call 77; refine (HP.out _ _ _ _ (by assumption) (by assumption)).mono ?_; rintro r w3 ⟨rfl, HE, HZ3⟩))
    all_goals go_wp2
    all_goals go_ret
    all_goals exact ⟨rfl, Hid.out (by assumption)⟩
  · go_region_held3 (fun w' => (w'.cell? ⟨x, 0, none⟩ = some (.bool false) ∧ w'.cell? ⟨x, 1, none⟩ = some (.slice a k ca) ∧ w'.cell? ⟨y, 1, none⟩ = some (.slice b l cb)) ∧ Hid (ZOk z w w')) (exact HK.out _ (by assumption))
      (first | (go_at_call 101; refine (HC.out _ (And.right (by assumption))).mono ?_; rintro r w1 ⟨rfl, HB1⟩))
    have HZ1 := HZD.out _ HB1
    go_wp2_with fail
    go_region_held3 (fun w' => (w'.cell? ⟨x, 0, none⟩ = some (.bool false) ∧ w'.cell? ⟨x, 1, none⟩ = some (.slice a k ca) ∧ w'.cell? ⟨y, 1, none⟩ = some (.slice b l cb)) ∧ Hid (ZOk z w w')) (exact HK.out _ (by assumption))
      (first
        | (go_at_call 83; refine (HL.out _ (And.right (by assumption))).mono ?_; rintro r w2 ⟨L', a', cap', rfl, HM, HZ2⟩)
        | (go_at_call 77; refine (HP.out _ _ _ _ (by assumption) (by assumption)).mono ?_; rintro r w3 ⟨rfl, HE, HZ3⟩))
    all_goals go_wp2
    all_goals go_ret
    all_goals exact ⟨rfl, Hid.out (by assumption)⟩
  · go_region_held3 (fun w' => (w'.cell? ⟨x, 0, none⟩ = some (.bool true) ∧ w'.cell? ⟨x, 1, none⟩ = some (.slice a k ca) ∧ w'.cell? ⟨y, 1, none⟩ = some (.slice b l cb)) ∧ Hid (ZOk z w w')) (exact HK.out _ (by assumption))
      (first | (go_at_call 101; refine (HC.out _ (And.right (by assumption))).mono ?_; rintro r w1 ⟨rfl, HB1⟩))
    have HZ1 := HZD.out _ HB1
    go_wp2_with fail
    go_region_held3 (fun w' => (w'.cell? ⟨x, 0, none⟩ = some (.bool true) ∧ w'.cell? ⟨x, 1, none⟩ = some (.slice a k ca) ∧ w'.cell? ⟨y, 1, none⟩ = some (.slice b l cb)) ∧ Hid (ZOk z w w')) (exact HK.out _ (by assumption))
      (first
        | (go_at_call 83; refine (HL.out _ (And.right (by assumption))).mono ?_; rintro r w2 ⟨L', a', cap', rfl, HM, HZ2⟩)
        | (go_at_call 77; refine (HP.out _ _ _ _ (by assumption) (by assumption)).mono ?_; rintro r w3 ⟨rfl, HE, HZ3⟩))
    all_goals go_wp2
    all_goals go_ret
    all_goals exact ⟨rfl, Hid.out (by assumption)⟩
  · go_region_held3 (fun w' => (w'.cell? ⟨x, 0, none⟩ = some (.bool true) ∧ w'.cell? ⟨x, 1, none⟩ = some (.slice a k ca) ∧ w'.cell? ⟨y, 1, none⟩ = some (.slice b l cb)) ∧ Hid (ZOk z w w')) (exact HK.out _ (by assumption))
      (first | (go_at_call 101; refine (HC.out _ (And.right (by assumption))).mono ?_; rintro r w1 ⟨rfl, HB1⟩))
    have HZ1 := HZD.out _ HB1
    go_wp2_with fail
    go_region_held3 (fun w' => (w'.cell? ⟨x, 0, none⟩ = some (.bool true) ∧ w'.cell? ⟨x, 1, none⟩ = some (.slice a k ca) ∧ w'.cell? ⟨y, 1, none⟩ = some (.slice b l cb)) ∧ Hid (ZOk z w w')) (exact HK.out _ (by assumption))
      (first
        | (go_at_call 83; refine (HL.out _ (And.right (by assumption))).mono ?_; rintro r w2 ⟨L', a', cap', rfl, HM, HZ2⟩)
        | (go_at_call 77; refine (HP.out _ _ _ _ (by assumption) (by assumption)).mono ?_; rintro r w3 ⟨rfl, HE, HZ3⟩))
    all_goals go_wp2
    all_goals go_ret
    all_goals exact ⟨rfl, Hid.out (by assumption)⟩
/-- What a method leaves, told as a whole number. -/
def PutZ (z : Nat) (v : Int) (bound : Nat) (w w' : World) : Prop := ∃ neg L', intL neg L' = v ∧ L'.length ≤ bound ∧ BigAt w' z neg L' ∧ But z w w'
theorem PutIs.toZ {z : Nat} {neg : Bool} {n bound b2 : Nat} {v : Int} {w w' : World} (h : PutIs z neg n bound w w') (hv : (if neg = true then -(n : Int) else n) = v) (hb : bound ≤ b2) : PutZ z v b2 w w' := by
  obtain ⟨L', e1, e2, e3, e4⟩ := h
  exact ⟨neg, L', by unfold intL; rw [e1]; exact hv, by omega, e3, e4⟩
theorem sum_any (z x y : Nat) (n1 n2 turn : Bool) (A B : List Nat) (w : World) (hz : ZOk z w w) (hap : n2 = (n1 != turn) ∨ (x ≠ z ∧ y ≠ z)) (hx : BigAt w x n1 A) (hy : BigAt w y n2 B) (hA : A.length ≤ 999999) (hB : B.length ≤ 999999) :
    Calls Tryz.prog 87 #[.pointer (some ⟨z, 0, none⟩), .pointer (some ⟨x, 0, none⟩), .pointer (some ⟨y, 0, none⟩), .bool turn] w fun r w' => r = .returned (.pointer (some ⟨z, 0, none⟩)) ∧ PutZ z (intL n1 A + (if turn = true then -intL n2 B else intL n2 B)) (max A.length B.length + 1) w w' := by
  by_cases hs : n2 = (n1 != turn)
  · subst hs
    refine (sum_same z x y n1 turn A B w hz hx hy hA hB).mono ?_
    rintro r w' ⟨rfl, h⟩
    refine ⟨rfl, h.toZ ?_ (Nat.le_refl _)⟩
    unfold intL
    by_cases h0 : natL A + natL B = 0
    · have a0 : natL A = 0 := by omega
      have b0 : natL B = 0 := by omega
      rw [a0, b0]
      cases n1 <;> cases turn <;> rfl
    · rw [decide_eq_true h0, Bool.and_true]
      cases n1 <;> cases turn <;> simp <;> omega
  · have hs' : n2 = (n1 == turn) := by cases n1 <;> cases n2 <;> cases turn <;> simp_all
    have hap2 : x ≠ z ∧ y ≠ z := by
      rcases hap with h | h
      · exact absurd h hs
      · exact h
    subst hs'
    by_cases hlt : natL A < natL B
    · refine (sum_less z x y n1 turn A B w hz hx hy hA hB hlt).mono ?_
      rintro r w' ⟨rfl, h⟩
      refine ⟨rfl, h.toZ ?_ (by omega)⟩
      unfold intL
      rw [decide_eq_true (show natL B - natL A ≠ 0 by omega), Bool.and_true]
      cases n1 <;> cases turn <;> simp <;> omega
    · refine (sum_ge z x y n1 turn A B w hz hap2.1 hap2.2 hx hy hA hB (by omega)).mono ?_
      rintro r w' ⟨rfl, h⟩
      refine ⟨rfl, h.toZ ?_ (by omega)⟩
      unfold intL
      by_cases h0 : natL A - natL B = 0
      · rw [h0]
        cases n1 <;> cases turn <;> simp <;> omega
      · rw [decide_eq_true h0, Bool.and_true]
        cases n1 <;> cases turn <;> simp <;> omega
set_option maxHeartbeats 400000 in
theorem Add_big (z x y : Nat) (n1 n2 : Bool) (A B : List Nat) (w : World) (hz : ZOk z w w) (hap : n2 = (n1 != false) ∨ (x ≠ z ∧ y ≠ z)) (hx : BigAt w x n1 A) (hy : BigAt w y n2 B) (hA : A.length ≤ 999999) (hB : B.length ≤ 999999) :
    Calls Tryz.prog 60 #[.pointer (some ⟨z, 0, none⟩), .pointer (some ⟨x, 0, none⟩), .pointer (some ⟨y, 0, none⟩)] w fun r w' => r = .returned (.pointer (some ⟨z, 0, none⟩)) ∧ PutZ z (intL n1 A + intL n2 B) (max A.length B.length + 1) w w' := by
  have HS := hid (sum_any z x y n1 n2 false A B w hz hap hx hy hA hB)
  clear hz hx hy hA hB hap
  go_enter Tryz.func60, Tryz.ntmps60
  go_wp2_with fail
  refine HS.out.mono ?_
  rintro r w1 ⟨rfl, HE⟩
  have HE := hid HE
  go_wp2
  go_ret
  exact ⟨rfl, HE.out⟩
set_option maxHeartbeats 400000 in
theorem Sub_big (z x y : Nat) (n1 n2 : Bool) (A B : List Nat) (w : World) (hz : ZOk z w w) (hap : n2 = (n1 != true) ∨ (x ≠ z ∧ y ≠ z)) (hx : BigAt w x n1 A) (hy : BigAt w y n2 B) (hA : A.length ≤ 999999) (hB : B.length ≤ 999999) :
    Calls Tryz.prog 103 #[.pointer (some ⟨z, 0, none⟩), .pointer (some ⟨x, 0, none⟩), .pointer (some ⟨y, 0, none⟩)] w fun r w' => r = .returned (.pointer (some ⟨z, 0, none⟩)) ∧ PutZ z (intL n1 A + -intL n2 B) (max A.length B.length + 1) w w' := by
  have HS := hid (sum_any z x y n1 n2 true A B w hz hap hx hy hA hB)
  clear hz hx hy hA hB hap
  go_enter Tryz.func103, Tryz.ntmps103
  go_wp2_with fail
  refine HS.out.mono ?_
  rintro r w1 ⟨rfl, HE⟩
  have HE := hid HE
  go_wp2
  go_ret
  exact ⟨rfl, HE.out⟩
end Go.Proofs.YtijadahpddmhjaaGreatDoor

namespace Go.Proofs.YtijadahpddmhjaaGreatDoor
open Go.RowKit Go.IntWalk

set_option maxHeartbeats 1000000 in
theorem trim_some (L : List Nat) (b off cap : Nat) (w : World) (hcell : ∀ i, i < L.length → w.cell? ⟨b, off + i, none⟩ = some (.int .u32 (L.getD i 0))) (hcap : L.length ≤ cap) (hn : L.length ≤ 1099511627776) :
    Calls Tryz.prog 108 #[.slice (some ⟨b, off, none⟩) L.length cap] w fun r w' => (∃ k, k ≤ L.length ∧ r = .returned (.slice (some ⟨b, off, none⟩) k cap) ∧ natL (L.take k) = natL L ∧ EndOk L k) ∧ w' = w := by
  have HC := hid hcell
  have hL := hid (show natL (L.take L.length) = natL L by rw [List.take_length])
  obtain ⟨n, hnl⟩ : ∃ n, Hid (L.length = n) := ⟨_, rfl⟩
  rw [hnl.out] at hn hcap hL ⊢
  clear hcell
  go_enter Tryz.func108, Tryz.ntmps108
  go_wp2
  go_loop [3] (fun v => ∃ k : Nat, k ≤ n ∧ v = .int .i64 k ∧ Hid (natL (L.take k) = natL L)) (fun v => (intOf v).toNat)
  case atStart => exact ⟨n, Nat.le_refl _, rfl, hL⟩
  case round =>
    obtain ⟨k, hkn, rfl, HA⟩ := hrel
    by_cases hk0 : k = 0
    · subst hk0
      go_wp2
      go_ret
      exact ⟨⟨0, Nat.zero_le _, rfl, HA.out, fun h => absurd rfl h⟩, rfl⟩
    · obtain ⟨j, hj⟩ : ∃ j, k = j + 1 := ⟨k - 1, by omega⟩
      subst hj
      have hck := HC.out j (by rw [hnl.out]; omega)
      have HZ := hid (natL_take_zero L j (by rw [hnl.out]; omega))
      obtain ⟨d, hd⟩ : ∃ d, Hid (L.getD j 0 = d) := ⟨_, rfl⟩
      rw [hd.out] at hck HZ
      have hcast : (((j + 1 : Nat) : Int) - 1) = (j : Int) := by omega
      have hcapj : j + 1 ≤ cap := by omega
      have hpos : ((j + 1 : Nat) : Int) > 0 := by omega
      by_cases hd0 : d = 0
      · subst hd0
        go_wp2
        exact ⟨⟨j, by omega, by go_num, (HZ.out rfl).symm.trans HA.out⟩, by simp [intOf]⟩
      · have hdb : ((d : Int) == 0) = false := by simpa using hd0
        have HD := hid hd0
        clear hd0
        go_wp2
        go_ret
        exact ⟨⟨j + 1, hkn, rfl, HA.out, fun _ => by rw [Nat.add_sub_cancel, hd.out]; exact HD.out⟩, rfl⟩
set_option maxHeartbeats 400000 in
theorem trim_none (cap : Nat) (a : Option Addr) (w : World) :
    Calls Tryz.prog 108 #[.slice a 0 cap] w fun r w' => r = .returned (.slice a 0 cap) ∧ w' = w := by
  go_enter Tryz.func108, Tryz.ntmps108
  go_wp2
  refine wp_loop_rounds 1 ?_
  rw [rounds_succ]
  go_wp2
  go_ret
  exact ⟨rfl, rfl⟩
theorem trim_any (L : List Nat) (a : Option Addr) (cap : Nat) (w : World) (h : MagAt w a L) (hcap : L.length ≤ cap) (hn : L.length ≤ 1099511627776) :
    Calls Tryz.prog 108 #[.slice a L.length cap] w fun r w' => (∃ k, k ≤ L.length ∧ r = .returned (.slice a k cap) ∧ natL (L.take k) = natL L ∧ EndOk L k) ∧ w' = w := by
  by_cases h0 : L.length = 0
  · have hl : L = [] := List.length_eq_zero_iff.1 h0
    rw [h0]
    refine (trim_none cap a w).mono ?_
    rintro r w' ⟨rfl, rfl⟩
    exact ⟨⟨0, Nat.le_refl _, rfl, by rw [hl]; rfl, fun c => absurd rfl c⟩, rfl⟩
  · obtain ⟨b, off, rfl, hb, _⟩ := h 0 (by omega)
    refine trim_some L b off cap w (fun i hi => ?_) hcap hn
    obtain ⟨b', off', e, _, hc⟩ := h i hi
    cases e
    exact hc
set_option maxHeartbeats 400000 in
theorem word_any (L : List Nat) (a : Option Addr) (cap i : Nat) (w : World) (h : MagAt w a L) :
    Calls Tryz.prog 119 #[.slice a L.length cap, .int .i64 i] w fun r w' => r = .returned (.int .u32 (L.getD i 0)) ∧ w' = w := by
  by_cases hi : i < L.length
  · obtain ⟨b, off, rfl, hb, hc⟩ := h i hi
    obtain ⟨d, hd⟩ : ∃ d, Hid (L.getD i 0 = d) := ⟨_, rfl⟩
    rw [hd.out] at hc ⊢
    obtain ⟨n, hnl⟩ : ∃ n, Hid (L.length = n) := ⟨_, rfl⟩
    rw [hnl.out] at hi ⊢
    have hii : (i : Int) < (n : Int) := by omega
    clear h hb
    go_enter Tryz.func119, Tryz.ntmps119
    go_wp2
    go_ret
    exact ⟨rfl, rfl⟩
  · have hd : L.getD i 0 = 0 := by simp [List.getD, hi]
    rw [hd]
    obtain ⟨n, hnl⟩ : ∃ n, Hid (L.length = n) := ⟨_, rfl⟩
    rw [hnl.out] at hi ⊢
    have hii : ¬ (i : Int) < (n : Int) := by omega
    clear h
    go_enter Tryz.func119, Tryz.ntmps119
    go_wp2
    go_ret
    exact ⟨rfl, rfl⟩
theorem ret_uu {a b a' b' : Int} (h1 : a = a') (h2 : b = b') : Ending.returned (.tuple #[.int .u32 a, .int .u32 b]) = .returned (.tuple #[.int .u32 a', .int .u32 b']) := by rw [h1, h2]
theorem top32 (n : Nat) (h : n < 4294967296) : n / 2147483648 = (n.testBit 31).toNat ∧ n.testBit 31 = decide (2147483648 ≤ n) := by
  have e : n.testBit 31 = decide (n / 2147483648 % 2 = 1) := by
    rw [Nat.testBit_eq_decide_div_mod_eq]
  have e2 : decide (n / 2147483648 % 2 = 1) = decide (2147483648 ≤ n) := decide_eq_decide.2 (by omega)
  rw [e, e2]
  refine ⟨?_, rfl⟩
  by_cases c : 2147483648 ≤ n
  · rw [decide_eq_true c]; show _ = 1; omega
  · rw [decide_eq_false c]; show _ = 0; omega
/-- The borrow of a difference of words. -/
def bor (x y b : Nat) : Nat := if x < y + b then 1 else 0
def dif (x y b : Nat) : Nat := (x + 8589934592 - y - b) % 4294967296
theorem sub32_bits (x y b : Nat) (hx : x < 4294967296) (hy : y < 4294967296) (hb : b ≤ 1) :
    (((4294967295 - x) &&& y) ||| ((4294967295 - (x ^^^ y)) &&& dif x y b)) / 2147483648 = bor x y b := by
  have hd : dif x y b < 4294967296 := Nat.mod_lt _ (by decide)
  have hxy : x ^^^ y < 4294967296 := Nat.xor_lt_two_pow (n := 32) hx hy
  have h1 : ((4294967295 - x) &&& y) < 2 ^ 32 := Nat.and_lt_two_pow _ hy
  have h2 : ((4294967295 - (x ^^^ y)) &&& dif x y b) < 2 ^ 32 := Nat.and_lt_two_pow _ hd
  have h3 : (((4294967295 - x) &&& y) ||| ((4294967295 - (x ^^^ y)) &&& dif x y b)) < 4294967296 := Nat.or_lt_two_pow (n := 32) h1 h2
  have nx : (4294967295 - x).testBit 31 = !x.testBit 31 := by
    have := Nat.testBit_two_pow_sub_succ (n := 32) hx 31
    simpa using this
  have nxy : (4294967295 - (x ^^^ y)).testBit 31 = !(x ^^^ y).testBit 31 := by
    have := Nat.testBit_two_pow_sub_succ (n := 32) hxy 31
    simpa using this
  rw [(top32 _ h3).1, Nat.testBit_or, Nat.testBit_and, Nat.testBit_and, nx, nxy, Nat.testBit_xor, (top32 x hx).2, (top32 y hy).2, (top32 _ hd).2]
  unfold bor dif
  by_cases cx : 2147483648 ≤ x
  · by_cases cy : 2147483648 ≤ y
    · rw [decide_eq_true cx, decide_eq_true cy]
      by_cases c : x < y + b
      · rw [if_pos c, decide_eq_true (by omega)]; rfl
      · rw [if_neg c, decide_eq_false (by omega)]; rfl
    · rw [decide_eq_true cx, decide_eq_false cy, if_neg (by omega)]; simp
  · by_cases cy : 2147483648 ≤ y
    · rw [decide_eq_false cx, decide_eq_true cy, if_pos (by omega)]; simp
    · rw [decide_eq_false cx, decide_eq_false cy]
      by_cases c : x < y + b
      · rw [if_pos c, decide_eq_true (by omega)]; rfl
      · rw [if_neg c, decide_eq_false (by omega)]; rfl
theorem bnot32 (x : Nat) (h : x < 4294967296) : bits .xor .u32 IntKind.u32.max (x : Int) = ((4294967295 - x : Nat) : Int) := by
  have hm : IntKind.u32.max = ((4294967295 : Nat) : Int) := rfl
  rw [hm, u32_xor_nat 4294967295 x (by decide) h]
  congr 1
  apply Nat.eq_of_testBit_eq
  intro i
  have h1 := Nat.testBit_two_pow_sub_succ (n := 32) h i
  have h2 : (4294967295 : Nat).testBit i = decide (i < 32) := Nat.testBit_two_pow_sub_one 32 i
  have h3 : 2 ^ 32 - (x + 1) = 4294967295 - x := by simp only [Nat.reducePow]; omega
  rw [h3] at h1
  rw [h1, Nat.testBit_xor, h2]
  by_cases c : i < 32
  · rw [decide_eq_true c]; simp
  · rw [decide_eq_false c]
    have : x.testBit i = false := Nat.testBit_lt_two_pow (Nat.lt_of_lt_of_le h (by have : (2 : Nat) ^ 32 ≤ 2 ^ i := Nat.pow_le_pow_right (by decide) (by omega); simpa using this))
    rw [this]; rfl
theorem bor_w (x y b : Nat) (hx : x < 4294967296) (hy : y < 4294967296) (hb : b ≤ 1) : bits .or .u32 (bits .and .u32 (bits .xor .u32 IntKind.u32.max (x : Int)) (y : Int)) (bits .and .u32 (bits .xor .u32 IntKind.u32.max (bits .xor .u32 (x : Int) (y : Int))) (((x : Int) - y - b) % 4294967296)) / 2147483648 = (bor x y b : Int) := by
  have hd : dif x y b < 4294967296 := Nat.mod_lt _ (by decide)
  have hxy : x ^^^ y < 4294967296 := Nat.xor_lt_two_pow (n := 32) hx hy
  have h1 : ((4294967295 - x) &&& y) < 4294967296 := Nat.and_lt_two_pow (n := 32) _ hy
  have h2 : ((4294967295 - (x ^^^ y)) &&& dif x y b) < 4294967296 := Nat.and_lt_two_pow (n := 32) _ hd
  have e : ((x : Int) - y - b) % 4294967296 = (dif x y b : Int) := by unfold dif; omega
  rw [e, bnot32 x hx, u32_xor_nat x y hx hy, bnot32 _ hxy, u32_and_nat _ y (by omega) hy, u32_and_nat _ _ (by omega) hd, u32_or_nat _ _ h1 h2, ← sub32_bits x y b hx hy hb]
  omega
set_option maxHeartbeats 400000 in
theorem sub32_any (x y c : Nat) (w : World) (hx : x < 4294967296) (hy : y < 4294967296) (hc : c ≤ 1) :
    Calls Tryz.prog 118 #[.int .u32 x, .int .u32 y, .int .u32 c] w fun r w' => r = .returned (.tuple #[.int .u32 (dif x y c), .int .u32 (bor x y c)]) ∧ w' = w := by
  have HB := hid (bor_w x y c hx hy hc)
  have HD := hid (show (((x : Int) - y) % 4294967296 - c) % 4294967296 = (dif x y c : Int) by unfold dif; omega)
  obtain ⟨B, hB⟩ : ∃ B, Hid (bor x y c = B) := ⟨_, rfl⟩
  obtain ⟨D, hD⟩ : ∃ D, Hid (dif x y c = D) := ⟨_, rfl⟩
  rw [hB.out] at HB ⊢
  rw [hD.out] at HD ⊢
  clear hx hy hc
  have hsg : IntKind.u32.signed = false := rfl
  go_enter Tryz.func118, Tryz.ntmps118
  go_wp2
  go_ret2
  exact ⟨ret_uu HD.out HB.out, rfl⟩
end Go.Proofs.YtijadahpddmhjaaGreatDoor
