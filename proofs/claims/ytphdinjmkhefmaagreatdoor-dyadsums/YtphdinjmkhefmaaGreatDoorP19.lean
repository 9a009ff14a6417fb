
/- What the document's Mul does. -/
import Derived.Test.YtphdinjmkhefmaaGreatDoorP12
import Derived.Test.YtphdinjmkhefmaaGreatDoorP18
import Derived.Test.YtphdinjmkhefmaaGreatDoorP13
namespace Go.Proofs.YtphdinjmkhefmaaGreatDoor
open Go.RowKit Go.IntWalk

set_option maxHeartbeats 4000000 in
theorem Mul_big (z x y : Nat) (n1 n2 : Bool) (A B : List Nat) (w : World) (hz : ZOk z w w) (hxz : x ≠ z) (hyz : y ≠ z) (hx : BigAt w x n1 A) (hy : BigAt w y n2 B) (hA : A.length ≤ 400000) (hB : B.length ≤ 400000) :
    Calls Tryz.prog 41 #[.pointer (some ⟨z, 0, none⟩), .pointer (some ⟨x, 0, none⟩), .pointer (some ⟨y, 0, none⟩)] w fun r w' => r = .returned (.pointer (some ⟨z, 0, none⟩)) ∧ PutIs z ((n1 != n2) && decide (natL A * natL B ≠ 0)) (natL A * natL B) (A.length + B.length) w w' := by
  obtain ⟨a, ca, ho, hcap, hm, hd, hc, hneg⟩ := hx
  obtain ⟨c0, c1, hf, hlt⟩ := int_cells ho
  obtain ⟨b, cb, ho', hcap', hm', hd', hc', hneg'⟩ := hy
  obtain ⟨c0', c1', hf', hlt'⟩ := int_cells ho'
  have HMA : Hid (∀ w', ZOk z w w' → MagAt w' a A) := by
    intro w' hw
    obtain ⟨_, neg0, a0, n0, cap0, hoz⟩ := hz
    refine hm.but hw.1 (fun b off e h0 => ?_)
    obtain ⟨b', off', e', hne⟩ := mag_ne hoz hm h0
    rw [e] at e'
    cases e'
    exact hne
  have HMB : Hid (∀ w', ZOk z w w' → MagAt w' b B) := by
    intro w' hw
    obtain ⟨_, neg0, a0, n0, cap0, hoz⟩ := hz
    refine hm'.but hw.1 (fun b off e h0 => ?_)
    obtain ⟨b', off', e', hne⟩ := mag_ne hoz hm' h0
    rw [e] at e'
    cases e'
    exact hne
  have HL : Hid (∀ w', Hid (ZOk z w w') → Calls Tryz.prog 68 #[.slice a A.length ca, .slice b B.length cb] w' fun r w1 => ∃ L' a' cap', r = .returned (.slice a' L'.length cap') ∧ Hid (MagIs (natL A * natL B) (A.length + B.length) L' a' cap' w1) ∧ Hid (ZOk z w w1)) := by
    intro w' hw
    refine (times_any A B a b ca cb w' (HMA.out _ hw.out) (HMB.out _ hw.out) hA hB hd hd').mono ?_
    rintro r w1 ⟨⟨L', a', cap', hr, h1⟩, hb1⟩
    exact ⟨L', a', cap', hr, h1, ZOk.below hw.out hb1⟩
  obtain ⟨v, hv⟩ : ∃ v, Hid (natL A * natL B = v) := ⟨_, rfl⟩
  obtain ⟨bd, hbd⟩ : ∃ bd, Hid (A.length + B.length = bd) := ⟨_, rfl⟩
  rw [hv.out, hbd.out] at HL ⊢
  have HP : Hid (∀ w1 L' a' cap', Hid (ZOk z w w1) → Hid (MagIs v bd L' a' cap' w1) → Calls Tryz.prog 66 #[.pointer (some ⟨z, 0, none⟩), .bool (n1 != n2), .slice a' L'.length cap'] w1 fun r w' => r = .returned (.pointer (some ⟨z, 0, none⟩)) ∧ Hid (PutIs z ((n1 != n2) && decide (v ≠ 0)) v bd w w') ∧ Hid (ZOk z w w')) := by
    intro w1 L' a' cap' h1 h2
    refine (put_is z (n1 != n2) v bd w w1 L' a' cap' h1.out h2.out (by have := hbd.out; omega)).mono ?_
    rintro r w' ⟨rfl, L', e1, e2, e3, e4⟩
    exact ⟨rfl, ⟨L', e1, e2, e3, e4⟩, ZOk.big h1.out e4 e3⟩
  obtain ⟨k, hk⟩ : ∃ k, Hid (A.length = k) := ⟨_, rfl⟩
  obtain ⟨l, hl⟩ : ∃ l, Hid (B.length = l) := ⟨_, rfl⟩
  rw [hk.out] at HL c1
  rw [hl.out] at HL c1'
  have HK : Hid (∀ w', Hid (ZOk z w w') → (w'.cell? ⟨x, 0, none⟩ = some (.bool n1) ∧ w'.cell? ⟨x, 1, none⟩ = some (.slice a k ca) ∧ w'.cell? ⟨y, 0, none⟩ = some (.bool n2) ∧ w'.cell? ⟨y, 1, none⟩ = some (.slice b l cb)) ∧ Hid (ZOk z w w')) := fun w' h => ⟨⟨h.out.1.cell c0 hxz, h.out.1.cell c1 hxz, h.out.1.cell c0' hyz, h.out.1.cell c1' hyz⟩, h⟩
  have HZ0 : Hid (ZOk z w w.drew) := hz.drew
  clear hz hA hB hm hm' hd hd' hc hc' hneg hneg' ho ho' hcap hcap' hf hf' HMA HMB hxz hyz
  cases n1 <;> cases n2
  all_goals simp only [bne_self_eq_false, Bool.false_bne, Bool.true_bne, Bool.not_false] at HP ⊢
  all_goals
    go_enter Tryz.func41, Tryz.ntmps41
    go_wp2_with fail
  · go_region_held3 (fun w' => (w'.cell? ⟨x, 0, none⟩ = some (.bool false) ∧ w'.cell? ⟨x, 1, none⟩ = some (.slice a k ca) ∧ w'.cell? ⟨y, 0, none⟩ = some (.bool false) ∧ w'.cell? ⟨y, 1, none⟩ = some (.slice b l cb)) ∧ Hid (ZOk z w w')) (exact HK.out _ (by assumption))
      (first
        | (go_at_call 68; refine (HL.out _ (And.right (by assumption))).mono ?_; rintro r w2 ⟨L', a', cap', rfl, HM, HZ2⟩)
        | (go_at_call 66; refine (HP.out _ _ _ _ (by assumption) (by assumption)).mono ?_; rintro r w3 ⟨rfl, HE, HZ3⟩))
    all_goals go_wp2
    all_goals go_ret
    all_goals exact ⟨rfl, Hid.out (by assumption)⟩
  · go_region_held3 (fun w' => (w'.cell? ⟨x, 0, none⟩ = some (.bool false) ∧ w'.cell? ⟨x, 1, none⟩ = some (.slice a k ca) ∧ w'.cell? ⟨y, 0, none⟩ = some (.bool true) ∧ w'.cell? ⟨y, 1, none⟩ = some (.slice b l cb)) ∧ Hid (ZOk z w w')) (exact HK.out _ (by assumption))
      (first
        | (go_at_call 68; refine (HL.out _ (And.right (by assumption))).mono ?_; rintro r w2 ⟨L', a', cap', rfl, HM, HZ2⟩)
        | (go_at_call 66; refine (HP.out _ _ _ _ (by assumption) (by assumption)).mono ?_; rintro r w3 ⟨rfl, HE, HZ3⟩))
    all_goals go_wp2
    all_goals go_ret
    all_goals exact ⟨rfl, Hid.out (by assumption)⟩
  · go_region_held3 (fun w' => (w'.cell? ⟨x, 0, none⟩ = some (.bool true) ∧ w'.cell? ⟨x, 1, none⟩ = some (.slice a k ca) ∧ w'.cell? ⟨y, 0, none⟩ = some (.bool false) ∧ w'.cell? ⟨y, 1, none⟩ = some (.slice b l cb)) ∧ Hid (ZOk z w w')) (exact HK.out _ (by assumption))
      (first
        | (go_at_call 68; refine (HL.out _ (And.right (by assumption))).mono ?_; rintro r w2 ⟨L', a', cap', rfl, HM, HZ2⟩)
        | (go_at_call 66; refine (HP.out _ _ _ _ (by assumption) (by assumption)).mono ?_; rintro r w3 ⟨rfl, HE, HZ3⟩))
    all_goals go_wp2
    all_goals go_ret
    all_goals exact ⟨rfl, Hid.out (by assumption)⟩
  · go_region_held3 (fun w' => (w'.cell? ⟨x, 0, none⟩ = some (.bool true) ∧ w'.cell? ⟨x, 1, none⟩ = some (.slice a k ca) ∧ w'.cell? ⟨y, 0, none⟩ = some (.bool true) ∧ w'.cell? ⟨y, 1, none⟩ = some (.slice b l cb)) ∧ Hid (ZOk z w w')) (exact HK.out _ (by assumption))
      (first
        | (go_at_call 68; refine (HL.out _ (And.right (by assumption))).mono ?_; rintro r w2 ⟨L', a', cap', rfl, HM, HZ2⟩)
        | (go_at_call 66; refine (HP.out _ _ _ _ (by assumption) (by assumption)).mono ?_; rintro r w3 ⟨rfl, HE, HZ3⟩))
    all_goals go_wp2
    all_goals go_ret
    all_goals exact ⟨rfl, Hid.out (by assumption)⟩
theorem NMul (z x y : Nat) (a b : Int) (b1 b2 : Nat) (w : World) (hz : ZOk z w w) (hxz : x ≠ z) (hyz : y ≠ z) (hx : NumAt w x a b1) (hy : NumAt w y b b2) (h1 : b1 ≤ 400000) (h2 : b2 ≤ 400000) :
    Calls Tryz.prog 41 #[.pointer (some ⟨z, 0, none⟩), .pointer (some ⟨x, 0, none⟩), .pointer (some ⟨y, 0, none⟩)] w fun r w' => r = .returned (.pointer (some ⟨z, 0, none⟩)) ∧ NumAt w' z (a * b) (b1 + b2) ∧ But z w w' := by
  obtain ⟨n1, A, rfl, hA, HA⟩ := hx
  obtain ⟨n2, B, rfl, hB, HB⟩ := hy
  refine (Mul_big z x y n1 n2 A B w hz hxz hyz HA HB (by omega) (by omega)).mono ?_
  rintro r w' ⟨rfl, L', e1, e2, e3, e4⟩
  refine ⟨rfl, ⟨_, L', ?_, by omega, e3⟩, e4⟩
  unfold intL
  rw [e1]
  by_cases h0 : natL A * natL B = 0
  · have hz0 : (natL A : Int) * (natL B : Int) = 0 := by rw [← Int.natCast_mul, h0]; rfl
    rw [h0]
    cases n1 <;> cases n2 <;> simp [hz0, Int.neg_mul, Int.mul_neg]
  · rw [decide_eq_true h0, Bool.and_true]
    cases n1 <;> cases n2 <;> simp [Int.natCast_mul, Int.neg_mul, Int.mul_neg]
end Go.Proofs.YtphdinjmkhefmaaGreatDoor

namespace Go.Proofs.YtphdinjmkhefmaaGreatDoor
open Go

/-- An odd number with some twos is another with some: what they have in common. -/
theorem odd_shift (i z : Int) (t u : Nat) (hi : i % 2 = 1) (h : i * 2 ^ t = z * 2 ^ u) : ∃ k, t = u + k ∧ z = i * 2 ^ k := by
  have hp : ∀ n : Nat, (2 : Int) ^ n ≠ 0 := fun n => by
    have : (0 : Int) < 2 ^ n := Int.pow_pos (by decide)
    omega
  by_cases c : t < u
  · obtain ⟨d, hd⟩ : ∃ d, u = t + (d + 1) := ⟨u - t - 1, by omega⟩
    rw [hd, Int.pow_add, Int.mul_comm (2 ^ t), ← Int.mul_assoc] at h
    have h2 := Int.eq_of_mul_eq_mul_right (hp t) h
    rw [Int.pow_succ, ← Int.mul_assoc] at h2
    omega
  · obtain ⟨k, hk⟩ : ∃ k, t = u + k := ⟨t - u, by omega⟩
    refine ⟨k, hk, ?_⟩
    rw [hk, Int.pow_add, Int.mul_comm (2 ^ u), ← Int.mul_assoc] at h
    exact (Int.eq_of_mul_eq_mul_right (hp u) h).symm
theorem odd_same (i j : Int) (t u : Nat) (hi : i % 2 = 1) (hj : j % 2 = 1) (h : i * 2 ^ t = j * 2 ^ u) : t = u ∧ i = j := by
  obtain ⟨k, h1, h2⟩ := odd_shift i j t u hi h
  obtain ⟨l, h3, h4⟩ := odd_shift j i u t hj h.symm
  have hk : k = 0 := by omega
  rw [hk] at h1 h2
  exact ⟨h1, by rw [h2, Int.pow_zero, Int.mul_one]⟩
theorem DigL.drop {L : List Nat} (h : DigL L) (k : Nat) : DigL (L.drop k) := fun d hd => h d (List.mem_of_mem_drop hd)
/-- A list of words without noughts at its end is told by its value. -/
theorem natL_inj : ∀ (A B : List Nat), DigL A → DigL B → A.length = B.length → natL A = natL B → A = B
  | [], [], _, _, _, _ => rfl
  | [], _ :: _, _, _, h, _ => by simp at h
  | _ :: _, [], _, _, h, _ => by simp at h
  | a :: A, b :: B, hA, hB, hl, h => by
    have h1 := hA a (List.mem_cons_self ..)
    have h2 := hB b (List.mem_cons_self ..)
    have e : a + 4294967296 * natL A = b + 4294967296 * natL B := h
    have hab : a = b := by omega
    have hr : natL A = natL B := by omega
    rw [hab, natL_inj A B (fun d hd => hA d (List.mem_cons_of_mem _ hd)) (fun d hd => hB d (List.mem_cons_of_mem _ hd)) (by simpa using hl) hr]
theorem natL_uniq (A B : List Nat) (hA : DigL A) (hB : DigL B) (cA : CanL A) (cB : CanL B) (h : natL A = natL B) : A = B := by
  apply natL_inj A B hA hB _ h
  rcases Nat.lt_trichotomy A.length B.length with c | c | c
  · have := natL_shorter A B hA cB c; omega
  · exact c
  · have := natL_shorter B A hB cA c; omega
theorem natL_mod (L : List Nat) : natL L % 2 = L.getD 0 0 % 2 := by
  cases L with
  | nil => rfl
  | cons d t => show (d + 4294967296 * natL t) % 2 = d % 2; omega
theorem intL_odd (neg : Bool) (L : List Nat) (h : natL L % 2 = 1) : intL neg L % 2 = 1 := by
  unfold intL
  cases neg
  · rw [if_neg (by decide)]; omega
  · rw [if_pos rfl]; omega
/-- What a dyad stands for: its sign, its words, its exponent; z * 2^e. -/
def DyV (neg : Bool) (L : List Nat) (e' : Int) (z e : Int) : Prop :=
  DigL L ∧ CanL L ∧ ((z = 0 ∧ L = [] ∧ neg = false ∧ e' = 0) ∨ (natL L % 2 = 1 ∧ ∃ k : Nat, intL neg L * 2 ^ k = z ∧ e' = e + k))
theorem DyV.uniq {n1 n2 : Bool} {L1 L2 : List Nat} {e1 e2 z e : Int} (h1 : DyV n1 L1 e1 z e) (h2 : DyV n2 L2 e2 z e) : n1 = n2 ∧ L1 = L2 ∧ e1 = e2 := by
  obtain ⟨d1, c1, v1⟩ := h1
  obtain ⟨d2, c2, v2⟩ := h2
  have nz : ∀ (n : Bool) (L : List Nat) (k : Nat), natL L % 2 = 1 → intL n L * 2 ^ k ≠ 0 := fun n L k h => by
    have := intL_odd n L h
    have hp : (0 : Int) < 2 ^ k := Int.pow_pos (by decide)
    exact Int.mul_ne_zero (by omega) (by omega)
  rcases v1 with ⟨z1, l1, m1, x1⟩ | ⟨o1, k1, w1, x1⟩
  · rcases v2 with ⟨z2, l2, m2, x2⟩ | ⟨o2, k2, w2, x2⟩
    · exact ⟨by rw [m1, m2], by rw [l1, l2], by rw [x1, x2]⟩
    · exact absurd (w2.trans z1) (nz _ _ _ o2)
  · rcases v2 with ⟨z2, l2, m2, x2⟩ | ⟨o2, k2, w2, x2⟩
    · exact absurd (w1.trans z2) (nz _ _ _ o1)
    · obtain ⟨ek, ei⟩ := odd_same _ _ k1 k2 (intL_odd n1 L1 o1) (intL_odd n2 L2 o2) (by rw [w1, w2])
      have en : natL L1 = natL L2 ∧ n1 = n2 := by
        unfold intL at ei
        cases n1 <;> cases n2 <;> simp at ei ⊢ <;> omega
      exact ⟨en.2, natL_uniq _ _ d1 d2 c1 c2 en.1, by rw [x1, x2, ek]⟩
/-- A lesser exponent tells the same number by more steps. -/
theorem DyV.low {n : Bool} {L : List Nat} {e' z e : Int} (h : DyV n L e' z e) (k : Nat) : DyV n L e' (z * 2 ^ k) (e - k) := by
  obtain ⟨d, c, v⟩ := h
  refine ⟨d, c, ?_⟩
  rcases v with ⟨z1, l1, m1, x1⟩ | ⟨o1, k1, w1, x1⟩
  · exact Or.inl ⟨by rw [z1, Int.zero_mul], l1, m1, x1⟩
  · exact Or.inr ⟨o1, k1 + k, by rw [Int.pow_add, ← Int.mul_assoc, w1], by omega⟩
/-- And a greater one, where the number is so many steps of it. -/
theorem DyV.high {n : Bool} {L : List Nat} {e' z e : Int} {k : Nat} (h : DyV n L e' (z * 2 ^ k) e) : DyV n L e' z (e + k) := by
  obtain ⟨d, c, v⟩ := h
  refine ⟨d, c, ?_⟩
  have hp : (0 : Int) < 2 ^ k := Int.pow_pos (by decide)
  rcases v with ⟨z1, l1, m1, x1⟩ | ⟨o1, k1, w1, x1⟩
  · refine Or.inl ⟨?_, l1, m1, x1⟩
    rcases Int.mul_eq_zero.1 z1 with c | c
    · exact c
    · omega
  · obtain ⟨j, j1, j2⟩ := odd_shift _ _ _ _ (intL_odd n L o1) w1
    exact Or.inr ⟨o1, j, j2.symm, by omega⟩
/-- The number at its own exponent. -/
theorem DyV.own {n : Bool} {L : List Nat} {e' z e : Int} (h : DyV n L e' z e) : DyV n L e' (intL n L) e' := by
  obtain ⟨d, c, v⟩ := h
  refine ⟨d, c, ?_⟩
  rcases v with ⟨z1, l1, m1, x1⟩ | ⟨o1, k1, w1, x1⟩
  · exact Or.inl ⟨by rw [l1, m1]; rfl, l1, m1, x1⟩
  · exact Or.inr ⟨o1, 0, by rw [Int.pow_zero, Int.mul_one], by omega⟩
/-- Of one that isn't 0: its exponent is no lesser, and the steps between. -/
theorem DyV.val {n : Bool} {L : List Nat} {e' z e : Int} (h : DyV n L e' z e) : (z = 0 ∧ L = [] ∧ n = false ∧ e' = 0) ∨ (L ≠ [] ∧ natL L % 2 = 1 ∧ z ≠ 0 ∧ ∃ k : Nat, intL n L * 2 ^ k = z ∧ e' = e + k) := by
  obtain ⟨d, c, v⟩ := h
  rcases v with v | ⟨o1, k1, w1, x1⟩
  · exact Or.inl v
  · refine Or.inr ⟨fun hl => absurd (hl ▸ o1 : natL [] % 2 = 1) (by decide), o1, fun hz => ?_, k1, w1, x1⟩
    have := intL_odd n L o1
    have hp : (0 : Int) < 2 ^ k1 := Int.pow_pos (by decide)
    exact Int.mul_ne_zero (show intL n L ≠ 0 by omega) (by omega) (w1.trans hz)
end Go.Proofs.YtphdinjmkhefmaaGreatDoor
