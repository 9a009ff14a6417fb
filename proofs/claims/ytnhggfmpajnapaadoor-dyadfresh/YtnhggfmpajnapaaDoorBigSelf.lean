
/- What the document's Lsh does, where a number is shifted itself. -/
import Derived.Test.YtnhggfmpajnapaaDoorBigRsh
import Derived.Deep.RegionWith
namespace Go.Proofs.YtnhggfmpajnapaaDoor
open Go.RowKit Go.IntWalk

set_option maxHeartbeats 1000000 in
theorem Lsh_self (z : Nat) (neg : Bool) (q s : Nat) (L : List Nat) (w : World) (hz : ZOk z w w) (hx : BigAt w z neg L) (hs : s < 32) (hq : q ≤ 1000000) (hn : L.length ≤ 1000000) :
    Calls Tryd.prog 92 #[.pointer (some ⟨z, 0, none⟩), .pointer (some ⟨z, 0, none⟩), .int .u64 ((32 * q + s : Nat) : Int)] w fun r w' => r = .returned (.pointer (some ⟨z, 0, none⟩)) ∧ PutIs z neg (natL L * 2 ^ (32 * q + s)) (q + L.length + 1) w w' := by
  obtain ⟨a, cap, ho, hcap, hm, hd, hc, hneg⟩ := hx
  obtain ⟨c0, c1, hf, hlt⟩ := int_cells ho
  have HL : Hid (∀ w', Below w.heap.size w w' → Calls Tryd.prog 121 #[.slice a L.length cap, .int .u64 ((32 * q + s : Nat) : Int)] w' fun r w1 => ∃ L' a' cap', r = .returned (.slice a' L'.length cap') ∧ Hid (MagIs (natL L * 2 ^ (32 * q + s)) (q + L.length + 1) L' a' cap' w1) ∧ Hid (ZOk z w w1) ∧ w1.cell? ⟨z, 0, none⟩ = some (.bool neg) ∧ w1.cell? ⟨z, 1, none⟩ = some (.slice a L.length cap)) := by
    intro w' hb
    refine (left_any L a cap q s w' (hm.but (But.of_below (z := w.heap.size) hb) ?_) hs hq hn hd).mono ?_
    · intro b1 off1 e h0 hbz
      obtain ⟨b2, off2, e2, hlt2, _⟩ := hm 0 (by omega)
      rw [e] at e2
      cases e2
      omega
    · rintro r w1 ⟨⟨L', a', cap', hr, h1⟩, hb1⟩
      have hb2 := bl_then hb hb1
      exact ⟨L', a', cap', hr, h1, ZOk.below hz hb2, by rw [hb2.cell (p := ⟨z, 0, none⟩) hlt]; exact c0, by rw [hb2.cell (p := ⟨z, 1, none⟩) hlt]; exact c1⟩
  have HN : Hid ((neg && decide (natL L * 2 ^ (32 * q + s) ≠ 0)) = neg) := by
    cases neg
    · rfl
    · have hne : L ≠ [] := fun c => by have := hneg c; simp at this
      have h1 : natL L ≠ 0 := fun c => hne ((natL_zero L hc).1 c)
      have h2 : 0 < natL L * 2 ^ (32 * q + s) := Nat.mul_pos (by omega) (Nat.two_pow_pos _)
      show (true && _) = true
      rw [Bool.true_and, decide_eq_true_eq]
      omega
  obtain ⟨v, hv⟩ : ∃ v, Hid (natL L * 2 ^ (32 * q + s) = v) := ⟨_, rfl⟩
  obtain ⟨bd, hbd⟩ : ∃ bd, Hid (q + L.length + 1 = bd) := ⟨_, rfl⟩
  rw [hv.out] at HL HN ⊢
  rw [hbd.out] at HL ⊢
  have HP : Hid (∀ w1 L' a' cap', Hid (ZOk z w w1) → Hid (MagIs v bd L' a' cap' w1) → Calls Tryd.prog 85 #[.pointer (some ⟨z, 0, none⟩), .bool neg, .slice a' L'.length cap'] w1 fun r w' => r = .returned (.pointer (some ⟨z, 0, none⟩)) ∧ Hid (PutIs z neg v bd w w') ∧ Hid (ZOk z w w')) := by
    intro w1 L' a' cap' h1 h2
    refine (put_is z neg v bd w w1 L' a' cap' h1.out h2.out (by have := hbd.out; omega)).mono ?_
    rintro r w' ⟨rfl, L', e1, e2, e3, e4⟩
    rw [HN.out] at e3
    exact ⟨rfl, ⟨L', e1, e2, e3, e4⟩, ZOk.big h1.out e4 e3⟩
  have HZ : Hid (Below w.heap.size w w.drew) := (Below.refl _ _).drew
  obtain ⟨N, hN⟩ : ∃ N : Int, Hid (((32 * q + s : Nat) : Int) = N) := ⟨_, rfl⟩
  rw [hN.out] at HL ⊢
  obtain ⟨n, hnl⟩ : ∃ n, Hid (L.length = n) := ⟨_, rfl⟩
  rw [hnl.out] at HL c1
  clear hz hs hq hn hm hd hc hneg ho hcap hf
  go_enter Tryd.func92, Tryd.ntmps92
  go_wp2_with fail
  go_region_with (first
      | (go_at_call 121; refine (HL.out _ HZ.out).mono ?_; rintro r w1 ⟨L', a', cap', rfl, HM, HZ1, k0, k1⟩)
      | (go_at_call 85; refine (HP.out _ _ _ _ (by assumption) (by assumption)).mono ?_; rintro r w1 ⟨rfl, HE, HZ2⟩))
  all_goals go_wp2
  all_goals go_ret
  all_goals exact ⟨rfl, Hid.out (by assumption)⟩
end Go.Proofs.YtnhggfmpajnapaaDoor
