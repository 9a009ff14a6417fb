
/- What the document's over does where the divisor is one word. -/
import Derived.Test.YtfdphegiafccpaaP35
namespace Go.Proofs.Ytfdphegiafccpaa
open Go.RowKit Go.IntWalk

/-- The quotient's words, and whether there is a rest. -/
def OvOk (A : List Nat) (d : Nat) (L' : List Nat) (a' : Option Addr) (cap' m : Nat) (w' : World) : Prop := MagIs (natL A / d) A.length L' a' cap' w' ∧ (m = 0 ↔ natL A % d = 0)
theorem mag_nil (w : World) (bound : Nat) : MagIs 0 bound [] none 0 w := ⟨Nat.le_refl _, Nat.zero_le _, fun i hi => absurd hi (Nat.not_lt_zero _), fun _ h => (by cases h), fun h => absurd rfl h, rfl⟩
theorem natL_one (d : Nat) : natL [d] = d := by
  show d + 4294967296 * 0 = d
  omega
set_option maxRecDepth 10000 in
set_option maxHeartbeats 2000000 in
theorem over_small (A : List Nat) (a b : Option Addr) (ca cb d : Nat) (w : World) (hA : MagAt w a A) (hB : MagAt w b [d]) (dA : DigL A) (cA : CanL A) (hn : A.length ≤ 1000000) (hd0 : 0 < d) (hd : d < 4294967296) (hlt : natL A < d) :
    Calls Try.prog 45 #[.slice a A.length ca, .slice b 1 cb] w fun r w' => (∃ L' a' cap' m am cm, r = .returned (.tuple #[.slice a' (List.length L') cap', .slice am m cm]) ∧ OvOk A d L' a' cap' m w') ∧ Below w.heap.size w w' := by
  have dB : DigL [d] := fun x hx => by
    simp at hx
    omega
  have cB : CanL [d] := fun _ => by
    show [d].getD 0 0 ≠ 0
    simp
    omega
  have HC : Hid (Calls Try.prog 39 #[.slice a A.length ca, .slice b 1 cb] w fun r w' => r = .returned (.int .i64 (-1)) ∧ Below w.heap.size w w') := by
    have := bcompare_any A [d] a b ca cb w hA hB dA dB cA cB hn (by simp)
    rw [natL_one, show cmpI (natL A) d = -1 by unfold cmpI; rw [if_pos hlt]] at this
    exact this
  have HAP : Hid (∀ ty W, Hid (Below w.heap.size w W) → ∃ a' cap' w', (Builtin.append_ #[51, 51] ty #[.slice none 0 0, .slice a A.length ca]).run Try.prog W = .ok (.slice a' A.length cap') w' ∧ Hid (Below w.heap.size w w')) := fun ty W hb => by
    obtain ⟨a', cap', w', e1, _, _, e4⟩ := append_copy ty a ca A W (hA.below hb.out) hn
    exact ⟨a', cap', w', e1, bl_then hb.out e4⟩
  have HF : Hid (∀ W, OvOk A d [] none 0 A.length W) := fun W => by
    refine ⟨?_, ?_⟩
    · rw [Nat.div_eq_of_lt hlt]
      exact mag_nil W _
    · rw [Nat.mod_eq_of_lt hlt]
      constructor
      · intro h
        rw [List.length_eq_zero_iff.1 h]
        rfl
      · intro h
        rw [(natL_zero A cA).1 h]
        rfl
  obtain ⟨k, hk⟩ : ∃ k, Hid (A.length = k) := ⟨_, rfl⟩
  rw [hk.out] at HC HAP HF ⊢
  clear hA hB dA cA hn hd0 hd hlt dB cB
  go_enter Try.func45, Try.ntmps45
  go_wp2_with fail
  refine HC.out.mono ?_
  rintro e w1 ⟨rfl, hb⟩
  have HB1 := hid hb
  clear hb
  go_wp2_with (first
      | (at_builtin; refine wpList_append_copy rfl _ _ rfl rfl a k ca (by first | rfl | (simp [Act.eval]; done) | (simp [Act.eval, Act.put]; done)) ?_; obtain ⟨a', cap', w2, hr, HB2⟩ := HAP.out _ _ HB1; refine ⟨a', cap', w2, hr, ?_⟩; clear hr)
      | fail)
  go_ret2
  exact ⟨⟨[], none, 0, k, _, _, rfl, HF.out _⟩, HB2.out⟩
set_option maxHeartbeats 2000000 in
theorem over_great (A : List Nat) (a : Option Addr) (bb ob ca cb d : Nat) (w : World) (hA : MagAt w a A) (hB : MagAt w (some ⟨bb, ob, none⟩) [d]) (dA : DigL A) (cA : CanL A) (hn : A.length ≤ 1000000) (hd0 : 0 < d) (hd : d < 4294967296) (hge : d ≤ natL A) :
    Calls Try.prog 45 #[.slice a A.length ca, .slice (some ⟨bb, ob, none⟩) 1 cb] w fun r w' => (∃ L' a' cap' m am cm, r = .returned (.tuple #[.slice a' (List.length L') cap', .slice am m cm]) ∧ OvOk A d L' a' cap' m w') ∧ Below w.heap.size w w' := by
  have dB : DigL [d] := fun x hx => by
    simp at hx
    omega
  have cB : CanL [d] := fun _ => by
    show [d].getD 0 0 ≠ 0
    simp
    omega
  have hA0 : 0 < A.length := by
    rcases Nat.eq_zero_or_pos A.length with h | h
    · rw [List.length_eq_zero_iff.1 h] at hge
      have : natL [] = 0 := rfl
      omega
    · exact h
  obtain ⟨c, hc⟩ : ∃ c, cmpI (natL A) d = c := ⟨_, rfl⟩
  have hc0 : ¬ c < 0 := by rw [← hc]; unfold cmpI; rw [if_neg (by omega)]; split <;> omega
  have HC : Hid (Calls Try.prog 39 #[.slice a A.length ca, .slice (some ⟨bb, ob, none⟩) 1 cb] w fun r w' => r = .returned (.int .i64 c) ∧ Below w.heap.size w w') := by
    have := bcompare_any A [d] a (some ⟨bb, ob, none⟩) ca cb w hA hB dA dB cA cB hn (by simp)
    rw [natL_one, hc] at this
    exact this
  obtain ⟨b', o', e, hlb, hcd⟩ := hB 0 (by simp)
  cases e
  have hcd' : w.cell? ⟨bb, ob, none⟩ = some (.int .u32 d) := hcd
  have HS : Hid (∀ W, Hid (Below w.heap.size w W) → Calls Try.prog 51 #[.slice a A.length ca, .int .u32 d] W fun r w' => (∃ (L' : List Nat) (a' : Option Addr) (cap' : Nat), r = .returned (.tuple #[.slice a' L'.length cap', .int .u32 ((natL A % d : Nat) : Int)]) ∧ Hid (MagIs (natL A / d) A.length L' a' cap' w')) ∧ Hid (Below w.heap.size w w')) := fun W hb => by
    refine (short_any A a ca d W (hA.below hb.out) hA0 hd0 hd hn dA).mono ?_
    rintro r w' ⟨h1, h2⟩
    exact ⟨h1, bl_then hb.out h2⟩
  obtain ⟨R, hR⟩ : ∃ R, natL A % d = R := ⟨_, rfl⟩
  have hRl : R < d := by rw [← hR]; exact Nat.mod_lt _ hd0
  have HCU : Hid (∀ (W : World) (T : TypeId), Calls Try.prog 47 #[.slice (some ⟨W.heap.size, 0, none⟩) 1 1] (W.alloc (.cells #[.int .u32 R] T)) fun r w' => (∃ k, r = .returned (.slice (some ⟨W.heap.size, 0, none⟩) k 1) ∧ Hid (k = 0 ↔ R = 0)) ∧ w' = W.alloc (.cells #[.int .u32 R] T)) := fun W T => by
    have hm : MagAt (W.alloc (.cells #[.int .u32 R] T)) (some ⟨W.heap.size, 0, none⟩) [R] := fun i hi => by
      have hi0 : i = 0 := by simp at hi; omega
      subst hi0
      exact ⟨W.heap.size, 0, rfl, by simp, by simp [go_sem]⟩
    have := bcut_any [R] (some ⟨W.heap.size, 0, none⟩) 1 (W.alloc (.cells #[.int .u32 R] T)) hm (by simp) (by simp)
    refine this.mono ?_
    rintro r w' ⟨⟨k, hk, rfl, hv, he⟩, rfl⟩
    refine ⟨⟨k, rfl, ?_⟩, rfl⟩
    have hk1 : k ≤ 1 := hk
    rw [natL_one] at hv
    show k = 0 ↔ R = 0
    constructor
    · intro h0
      rw [h0] at hv
      have : natL (List.take 0 [R]) = 0 := rfl
      omega
    · intro h0
      obtain ⟨hcan, hlen⟩ := can_take [R] k hk he
      rcases (show k = 0 ∨ k = 1 by omega) with h | h
      · exact h
      · exfalso
        rw [h0, h] at hcan
        have := hcan (by simp)
        simp at this
  have HFR := hid hR
  rw [hR] at HS
  obtain ⟨k, hk⟩ : ∃ k, Hid (A.length = k) := ⟨_, rfl⟩
  rw [hk.out] at HC HS ⊢
  have wR : IntKind.u32.wrap (R : Int) = (R : Int) := by rw [IntKind.wrap_u32]; omega
  clear hA hB dA cA hn hd0 hd hge dB cB hc hcd hR hRl
  have HCD := hid hcd'
  have HLB := hid hlb
  clear hcd' hlb
  go_enter Try.func45, Try.ntmps45
  go_wp2_with fail
  refine HC.out.mono ?_
  rintro e w1 ⟨rfl, hb⟩
  have HB1 := hid hb
  have c1 : w1.cell? ⟨bb, ob, none⟩ = some (.int .u32 d) := by rw [hb.cell (p := ⟨bb, ob, none⟩) HLB.out]; exact HCD.out
  clear hb
  go_wp2_with fail
  refine (HS.out _ HB1).mono ?_
  rintro e w2 ⟨⟨L', a', cap', rfl, HM⟩, HB2⟩
  go_wp2_with fail
  refine (HCU.out _ _).mono ?_
  rintro e w3 ⟨⟨m, rfl, HKR⟩, hw⟩
  rw [hw]
  have HM3 : Hid (∀ T, MagIs (natL A / d) A.length L' a' cap' (w2.alloc (.cells #[.int .u32 R] T))) := fun T => by
    obtain ⟨m1, m2, m3, m4, m5, m6⟩ := HM.out
    exact ⟨m1, by rw [hk.out]; exact m2, m3.below (al_below _ _), m4, m5, m6⟩
  have HB3 : Hid (∀ T, Below w.heap.size w (w2.alloc (.cells #[.int .u32 R] T))) := fun T => bl_then HB2.out (al_below _ _)
  clear hw
  go_wp2
  go_ret2
  exact ⟨⟨L', a', cap', m, _, _, rfl, HM3.out _, by rw [HFR.out]; exact HKR.out⟩, HB3.out _⟩
theorem over_one (A : List Nat) (a b : Option Addr) (ca cb d : Nat) (w : World) (hA : MagAt w a A) (hB : MagAt w b [d]) (dA : DigL A) (cA : CanL A) (hn : A.length ≤ 1000000) (hd0 : 0 < d) (hd : d < 4294967296) :
    Calls Try.prog 45 #[.slice a A.length ca, .slice b 1 cb] w fun r w' => (∃ L' a' cap' m am cm, r = .returned (.tuple #[.slice a' (List.length L') cap', .slice am m cm]) ∧ OvOk A d L' a' cap' m w') ∧ Below w.heap.size w w' := by
  by_cases h : natL A < d
  · exact over_small A a b ca cb d w hA hB dA cA hn hd0 hd h
  · obtain ⟨bb, ob, rfl, _, _⟩ := hB 0 (by simp)
    exact over_great A a bb ob ca cb d w hA hB dA cA hn hd0 hd (by omega)
end Go.Proofs.Ytfdphegiafccpaa
