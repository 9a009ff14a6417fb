
/- What the document's Mul does. -/
import Derived.Test.YtphdinjmkhefmaaGreatDoorP13
import Derived.Test.YtphdinjmkhefmaaGreatDoorP17
import Derived.Test.YtphdinjmkhefmaaGreatDoorP14
namespace Go.Proofs.YtphdinjmkhefmaaGreatDoor
open Go.RowKit Go.IntWalk

set_option maxHeartbeats 4000000 in
theorem Mul_big (z x y : Nat) (n1 n2 : Bool) (A B : List Nat) (w : World) (hz : ZOk z w w) (hxz : x ≠ z) (hyz : y ≠ z) (hx : BigAt w x n1 A) (hy : BigAt w y n2 B) (hA : A.length ≤ 400000) (hB : B.length ≤ 400000) :
    Calls Tryz.prog 41 #[.pointer (some ⟨z, 0, none⟩), .pointer (some ⟨x, 0, none⟩), .pointer (some ⟨y, 0, none⟩)] w fun r w' => r = .returned (.pointer (some ⟨z, 0, none⟩)) ∧ PutIs z ((n1 != n2) && decide (natL A * natL B ≠ 0)) (natL A * natL B) (A.length + B.length) w w' := by
  obtain ⟨a, ca, ho, hcap, hm, hd, hc, hneg⟩ := hx
  obtain ⟨c0, c1, hf, hlt⟩ := int_cells ho
  obtain ⟨b, cb, ho', hcap', hm', hd', hc', hneg'⟩ := hy
  obtain ⟨c0', c1', hf', hlt'⟩ := int_cells ho'
  have HMA : Hid (∀ w', ZOk z w w' → MagAt w' a A) := by
    intro w' hw
    obtain ⟨_, neg0, a0, n0, cap0, hoz⟩ := hz
    refine hm.but hw.1 (fun b off e h0 => ?_)
    obtain ⟨b', off', e', hne⟩ := mag_ne hoz hm h0
    rw [e] at e'
    cases e'
    exact hne
  have HMB : Hid (∀ w', ZOk z w w' → MagAt w' b B) := by
    intro w' hw
    obtain ⟨_, neg0, a0, n0, cap0, hoz⟩ := hz
    refine hm'.but hw.1 (fun b off e h0 => ?_)
    obtain ⟨b', off', e', hne⟩ := mag_ne hoz hm' h0
    rw [e] at e'
    cases e'
    exact hne
  have HL : Hid (∀ w', Hid (ZOk z w w') → Calls Tryz.prog 68 #[.slice a A.length ca, .slice b B.length cb] w' fun r w1 => ∃ L' a' cap', r = .returned (.slice a' L'.length cap') ∧ Hid (MagIs (natL A * natL B) (A.length + B.length) L' a' cap' w1) ∧ Hid (ZOk z w w1)) := by
    intro w' hw
    refine (times_any A B a b ca cb w' (HMA.out _ hw.out) (HMB.out _ hw.out) hA hB hd hd').mono ?_
    rintro r w1 ⟨⟨L', a', cap', hr, h1⟩, hb1⟩
    exact ⟨L', a', cap', hr, h1, ZOk.below hw.out hb1⟩
  obtain ⟨v, hv⟩ : ∃ v, Hid (natL A * natL B = v) := ⟨_, rfl⟩
  obtain ⟨bd, hbd⟩ : ∃ bd, Hid (A.length + B.length = bd) := ⟨_, rfl⟩
  rw [hv.out, hbd.out] at HL ⊢
  have HP : Hid (∀ w1 L' a' cap', Hid (ZOk z w w1) → Hid (MagIs v bd L' a' cap' w1) → Calls Tryz.prog 66 #[.pointer (some ⟨z, 0, none⟩), .bool (n1 != n2), .slice a' L'.length cap'] w1 fun r w' => r = .returned (.pointer (some ⟨z, 0, none⟩)) ∧ Hid (PutIs z ((n1 != n2) && decide (v ≠ 0)) v bd w w') ∧ Hid (ZOk z w w')) := by
    intro w1 L' a' cap' h1 h2
    refine (put_is z (n1 != n2) v bd w w1 L' a' cap' h1.out h2.out (by have := hbd.out; omega)).mono ?_
    rintro r w' ⟨rfl, L', e1, e2, e3, e4⟩
    exact ⟨rfl, ⟨L', e1, e2, e3, e4⟩, ZOk.big h1.out e4 e3⟩
  obtain ⟨k, hk⟩ : ∃ k, Hid (A.length = k) := ⟨_, rfl⟩
  obtain ⟨l, hl⟩ : ∃ l, Hid (B.length = l) := ⟨_, rfl⟩
  rw [hk.out] at HL c1
  rw [hl.out] at HL c1'
  have HK : Hid (∀ w', Hid (ZOk z w w') → (w'.cell? ⟨x, 0, none⟩ = some (.bool n1) ∧ w'.cell? ⟨x, 1, none⟩ = some (.slice a k ca) ∧ w'.cell? ⟨y, 0, none⟩ = some (.bool n2) ∧ w'.cell? ⟨y, 1, none⟩ = some (.slice b l cb)) ∧ Hid (ZOk z w w')) := fun w' h => ⟨⟨h.out.1.cell c0 hxz, h.out.1.cell c1 hxz, h.out.1.cell c0' hyz, h.out.1.cell c1' hyz⟩, h⟩
  have HZ0 : Hid (ZOk z w w.drew) := hz.drew
  clear hz hA hB hm hm' hd hd' hc hc' hneg hneg' ho ho' hcap hcap' hf hf' HMA HMB hxz hyz
  cases n1 <;> cases n2
  all_goals simp only [bne_self_eq_false, Bool.false_bne, Bool.true_bne, Bool.not_false] at HP ⊢
  all_goals
    go_enter Tryz.func41, Tryz.ntmps41
    go_wp2_with fail
  · go_region_held3 (fun w' => (w'.cell? ⟨x, 0, none⟩ = some (.bool false) ∧ w'.cell? ⟨x, 1, none⟩ = some (.slice a k ca) ∧ w'.cell? ⟨y, 0, none⟩ = some (.bool false) ∧ w'.cell? ⟨y, 1, none⟩ = some (.slice b l cb)) ∧ Hid (ZOk z w w')) (exact HK.out _ (by assumption))
      (first
        | (go_at_call 68; refine (HL.out _ (And.right (by assumption))).mono ?_; rintro r w2 ⟨L', a', cap', rfl, HM, HZ2⟩)
        | (go_at_call 66; refine (HP.out _ _ _ _ (by assumption) (by assumption)).mono ?_; rintro r w3 ⟨rfl, HE, HZ3⟩))
    all_goals go_wp2
    all_goals go_ret
    all_goals exact ⟨rfl, Hid.out (by assumption)⟩
  · go_region_held3 (fun w' => (w'.cell? ⟨x, 0, none⟩ = some (.bool false) ∧ w'.cell? ⟨x, 1, none⟩ = some (.slice a k ca) ∧ w'.cell? ⟨y, 0, none⟩ = some (.bool true) ∧ w'.cell? ⟨y, 1, none⟩ = some (.slice b l cb)) ∧ Hid (ZOk z w w')) (exact HK.out _ (by assumption))
      (first
        | (go_at_call 68; refine (HL.out _ (And.right (by assumption))).mono ?_; rintro r w2 ⟨L', a', cap', rfl, HM, HZ2⟩)
        | (go_at_call 66; refine (HP.out _ _ _ _ (by assumption) (by assumption)).mono ?_; rintro r w3 ⟨rfl, HE, HZ3⟩))
    all_goals go_wp2
    all_goals go_ret
    all_goals exact ⟨rfl, Hid.out (by assumption)⟩
  · go_region_held3 (fun w' => (w'.cell? ⟨x, 0, none⟩ = some (.bool true) ∧ w'.cell? ⟨x, 1, none⟩ = some (.slice a k ca) ∧ w'.cell? ⟨y, 0, none⟩ = some (.bool false) ∧ w'.cell? ⟨y, 1, none⟩ = some (.slice b l cb)) ∧ Hid (ZOk z w w')) (exact HK.out _ (by assumption))
      (first
        | (go_at_call 68; refine (HL.out _ (And.right (by assumption))).mono ?_; rintro r w2 ⟨L', a', cap', rfl, HM, HZ2⟩)
        | (go_at_call 66; refine (HP.out _ _ _ _ (by assumption) (by assumption)).mono ?_; rintro r w3 ⟨rfl, HE, HZ3⟩))
    all_goals go_wp2
    all_goals go_ret
    all_goals exact ⟨rfl, Hid.out (by assumption)⟩
  · go_region_held3 (fun w' => (w'.cell? ⟨x, 0, none⟩ = some (.bool true) ∧ w'.cell? ⟨x, 1, none⟩ = some (.slice a k ca) ∧ w'.cell? ⟨y, 0, none⟩ = some (.bool true) ∧ w'.cell? ⟨y, 1, none⟩ = some (.slice b l cb)) ∧ Hid (ZOk z w w')) (exact HK.out _ (by assumption))
      (first
        | (go_at_call 68; refine (HL.out _ (And.right (by assumption))).mono ?_; rintro r w2 ⟨L', a', cap', rfl, HM, HZ2⟩)
        | (go_at_call 66; refine (HP.out _ _ _ _ (by assumption) (by assumption)).mono ?_; rintro r w3 ⟨rfl, HE, HZ3⟩))
    all_goals go_wp2
    all_goals go_ret
    all_goals exact ⟨rfl, Hid.out (by assumption)⟩
theorem NMul (z x y : Nat) (a b : Int) (b1 b2 : Nat) (w : World) (hz : ZOk z w w) (hxz : x ≠ z) (hyz : y ≠ z) (hx : NumAt w x a b1) (hy : NumAt w y b b2) (h1 : b1 ≤ 400000) (h2 : b2 ≤ 400000) :
    Calls Tryz.prog 41 #[.pointer (some ⟨z, 0, none⟩), .pointer (some ⟨x, 0, none⟩), .pointer (some ⟨y, 0, none⟩)] w fun r w' => r = .returned (.pointer (some ⟨z, 0, none⟩)) ∧ NumAt w' z (a * b) (b1 + b2) ∧ But z w w' := by
  obtain ⟨n1, A, rfl, hA, HA⟩ := hx
  obtain ⟨n2, B, rfl, hB, HB⟩ := hy
  refine (Mul_big z x y n1 n2 A B w hz hxz hyz HA HB (by omega) (by omega)).mono ?_
  rintro r w' ⟨rfl, L', e1, e2, e3, e4⟩
  refine ⟨rfl, ⟨_, L', ?_, by omega, e3⟩, e4⟩
  unfold intL
  rw [e1]
  by_cases h0 : natL A * natL B = 0
  · have hz0 : (natL A : Int) * (natL B : Int) = 0 := by rw [← Int.natCast_mul, h0]; rfl
    rw [h0]
    cases n1 <;> cases n2 <;> simp [hz0, Int.neg_mul, Int.mul_neg]
  · rw [decide_eq_true h0, Bool.and_true]
    cases n1 <;> cases n2 <;> simp [Int.natCast_mul, Int.neg_mul, Int.mul_neg]
end Go.Proofs.YtphdinjmkhefmaaGreatDoor

namespace Go.Proofs.YtphdinjmkhefmaaGreatDoor
open Go

/-- An odd number with some twos is another with some: what they have in common. -/
theorem odd_shift (i z : Int) (t u : Nat) (hi : i % 2 = 1) (h : i * 2 ^ t = z * 2 ^ u) : ∃ k, t = u + k ∧ z = i * 2 ^ k := by
  have hp : ∀ n : Nat, (2 : Int) ^ n ≠ 0 := fun n => by
    have : (0 : Int) < 2 ^ n := Int.pow_pos (by decide)
    omega
  by_cases c : t < u
  · obtain ⟨d, hd⟩ : ∃ d, u = t + (d + 1) := ⟨u - t - 1, by omega⟩
    rw [hd, Int.pow_add, Int.mul_comm (2 ^ t), ← Int.mul_assoc] at h
    have h2 := Int.eq_of_mul_eq_mul_right (hp t) h
    rw [Int.pow_succ, ← Int.mul_assoc] at h2
    omega
  · obtain ⟨k, hk⟩ : ∃ k, t = u + k := ⟨t - u, by omega⟩
    refine ⟨k, hk, ?_⟩
    rw [hk, Int.pow_add, Int.mul_comm (2 ^ u), ← Int.mul_assoc] at h
    exact (Int.eq_of_mul_eq_mul_right (hp u) h).symm
theorem odd_same (i j : Int) (t u : Nat) (hi : i % 2 = 1) (hj : j % 2 = 1) (h : i * 2 ^ t = j * 2 ^ u) : t = u ∧ i = j := by
  obtain ⟨k, h1, h2⟩ := odd_shift i j t u hi h
  obtain ⟨l, h3, h4⟩ := odd_shift j i u t hj h.symm
  have hk : k = 0 := by omega
  rw [hk] at h1 h2
  exact ⟨h1, by rw [h2, Int.pow_zero, Int.mul_one]⟩
theorem DigL.drop {L : List Nat} (h : DigL L) (k : Nat) : DigL (L.drop k) := fun d hd => h d (List.mem_of_mem_drop hd)
/-- A list of words without noughts at its end is told by its value. -/
theorem natL_inj : ∀ (A B : List Nat), DigL A → DigL B → A.length = B.length → natL A = natL B → A = B
  | [], [], _, _, _, _ => rfl
  | [], _ :: _, _, _, h, _ => by simp at h
  | _ :: _, [], _, _, h, _ => by simp at h
  | a :: A, b :: B, hA, hB, hl, h => by
    have h1 := hA a (List.mem_cons_self ..)
    have h2 := hB b (List.mem_cons_self ..)
    have e : a + 4294967296 * natL A = b + 4294967296 * natL B := h
    have hab : a = b := by omega
    have hr : natL A = natL B := by omega
    rw [hab, natL_inj A B (fun d hd => hA d (List.mem_cons_of_mem _ hd)) (fun d hd => hB d (List.mem_cons_of_mem _ hd)) (by simpa using hl) hr]
theorem natL_uniq (A B : List Nat) (hA : DigL A) (hB : DigL B) (cA : CanL A) (cB : CanL B) (h : natL A = natL B) : A = B := by
  apply natL_inj A B hA hB _ h
  rcases Nat.lt_trichotomy A.length B.length with c | c | c
  · have := natL_shorter A B hA cB c; omega
  · exact c
  · have := natL_shorter B A hB cA c; omega
theorem natL_mod (L : List Nat) : natL L % 2 = L.getD 0 0 % 2 := by
  cases L with
  | nil => rfl
  | cons d t => show (d + 4294967296 * natL t) % 2 = d % 2; omega
theorem intL_odd (neg : Bool) (L : List Nat) (h : natL L % 2 = 1) : intL neg L % 2 = 1 := by
  unfold intL
  cases neg
  · rw [if_neg (by decide)]; omega
  · rw [if_pos rfl]; omega
/-- What a dyad stands for: its sign, its words, its exponent; z * 2^e. -/
def DyV (neg : Bool) (L : List Nat) (e' : Int) (z e : Int) : Prop :=
  DigL L ∧ CanL L ∧ ((z = 0 ∧ L = [] ∧ neg = false ∧ e' = 0) ∨ (natL L % 2 = 1 ∧ ∃ k : Nat, intL neg L * 2 ^ k = z ∧ e' = e + k))
theorem DyV.uniq {n1 n2 : Bool} {L1 L2 : List Nat} {e1 e2 z e : Int} (h1 : DyV n1 L1 e1 z e) (h2 : DyV n2 L2 e2 z e) : n1 = n2 ∧ L1 = L2 ∧ e1 = e2 := by
  obtain ⟨d1, c1, v1⟩ := h1
  obtain ⟨d2, c2, v2⟩ := h2
  have nz : ∀ (n : Bool) (L : List Nat) (k : Nat), natL L % 2 = 1 → intL n L * 2 ^ k ≠ 0 := fun n L k h => by
    have := intL_odd n L h
    have hp : (0 : Int) < 2 ^ k := Int.pow_pos (by decide)
    exact Int.mul_ne_zero (by omega) (by omega)
  rcases v1 with ⟨z1, l1, m1, x1⟩ | ⟨o1, k1, w1, x1⟩
  · rcases v2 with ⟨z2, l2, m2, x2⟩ | ⟨o2, k2, w2, x2⟩
    · exact ⟨by rw [m1, m2], by rw [l1, l2], by rw [x1, x2]⟩
    · exact absurd (w2.trans z1) (nz _ _ _ o2)
  · rcases v2 with ⟨z2, l2, m2, x2⟩ | ⟨o2, k2, w2, x2⟩
    · exact absurd (w1.trans z2) (nz _ _ _ o1)
    · obtain ⟨ek, ei⟩ := odd_same _ _ k1 k2 (intL_odd n1 L1 o1) (intL_odd n2 L2 o2) (by rw [w1, w2])
      have en : natL L1 = natL L2 ∧ n1 = n2 := by
        unfold intL at ei
        cases n1 <;> cases n2 <;> simp at ei ⊢ <;> omega
      exact ⟨en.2, natL_uniq _ _ d1 d2 c1 c2 en.1, by rw [x1, x2, ek]⟩
/-- A lesser exponent tells the same number by more steps. -/
theorem DyV.low {n : Bool} {L : List Nat} {e' z e : Int} (h : DyV n L e' z e) (k : Nat) : DyV n L e' (z * 2 ^ k) (e - k) := by
  obtain ⟨d, c, v⟩ := h
  refine ⟨d, c, ?_⟩
  rcases v with ⟨z1, l1, m1, x1⟩ | ⟨o1, k1, w1, x1⟩
  · exact Or.inl ⟨by rw [z1, Int.zero_mul], l1, m1, x1⟩
  · exact Or.inr ⟨o1, k1 + k, by rw [Int.pow_add, ← Int.mul_assoc, w1], by omega⟩
/-- And a greater one, where the number is so many steps of it. -/
theorem DyV.high {n : Bool} {L : List Nat} {e' z e : Int} {k : Nat} (h : DyV n L e' (z * 2 ^ k) e) : DyV n L e' z (e + k) := by
  obtain ⟨d, c, v⟩ := h
  refine ⟨d, c, ?_⟩
  have hp : (0 : Int) < 2 ^ k := Int.pow_pos (by decide)
  rcases v with ⟨z1, l1, m1, x1⟩ | ⟨o1, k1, w1, x1⟩
  · refine Or.inl ⟨?_, l1, m1, x1⟩
    rcases Int.mul_eq_zero.1 z1 with c | c
    · exact c
    · omega
  · obtain ⟨j, j1, j2⟩ := odd_shift _ _ _ _ (intL_odd n L o1) w1
    exact Or.inr ⟨o1, j, j2.symm, by omega⟩
/-- The number at its own exponent. -/
theorem DyV.own {n : Bool} {L : List Nat} {e' z e : Int} (h : DyV n L e' z e) : DyV n L e' (intL n L) e' := by
  obtain ⟨d, c, v⟩ := h
  refine ⟨d, c, ?_⟩
  rcases v with ⟨z1, l1, m1, x1⟩ | ⟨o1, k1, w1, x1⟩
  · exact Or.inl ⟨by rw [l1, m1]; rfl, l1, m1, x1⟩
  · exact Or.inr ⟨o1, 0, by rw [Int.pow_zero, Int.mul_one], by omega⟩
/-- Of one that isn't 0: its exponent is no lesser, and the steps between. -/
theorem DyV.val {n : Bool} {L : List Nat} {e' z e : Int} (h : DyV n L e' z e) : (z = 0 ∧ L = [] ∧ n = false ∧ e' = 0) ∨ (L ≠ [] ∧ natL L % 2 = 1 ∧ z ≠ 0 ∧ ∃ k : Nat, intL n L * 2 ^ k = z ∧ e' = e + k) := by
  obtain ⟨d, c, v⟩ := h
  rcases v with v | ⟨o1, k1, w1, x1⟩
  · exact Or.inl v
  · refine Or.inr ⟨fun hl => absurd (hl ▸ o1 : natL [] % 2 = 1) (by decide), o1, fun hz => ?_, k1, w1, x1⟩
    have := intL_odd n L o1
    have hp : (0 : Int) < 2 ^ k1 := Int.pow_pos (by decide)
    exact Int.mul_ne_zero (show intL n L ≠ 0 by omega) (by omega) (w1.trans hz)
end Go.Proofs.YtphdinjmkhefmaaGreatDoor

namespace Go.Proofs.YtphdinjmkhefmaaGreatDoor
open Go.RowKit Go.IntWalk

set_option maxHeartbeats 1000000 in
theorem trim_some (L : List Nat) (b off cap : Nat) (w : World) (hcell : ∀ i, i < L.length → w.cell? ⟨b, off + i, none⟩ = some (.int .u32 (L.getD i 0))) (hcap : L.length ≤ cap) (hn : L.length ≤ 1099511627776) :
    Calls Tryz.prog 30 #[.slice (some ⟨b, off, none⟩) L.length cap] w fun r w' => (∃ k, k ≤ L.length ∧ r = .returned (.slice (some ⟨b, off, none⟩) k cap) ∧ natL (L.take k) = natL L ∧ EndOk L k) ∧ w' = w := by
  have HC := hid hcell
  have hL := hid (show natL (L.take L.length) = natL L by rw [List.take_length])
  obtain ⟨n, hnl⟩ : ∃ n, Hid (L.length = n) := ⟨_, rfl⟩
  rw [hnl.out] at hn hcap hL ⊢
  clear hcell
  go_enter Tryz.func30, Tryz.ntmps30
  go_wp2
  go_loop [3] (fun v => ∃ k : Nat, k ≤ n ∧ v = .int .i64 k ∧ Hid (natL (L.take k) = natL L)) (fun v => (intOf v).toNat)
  case atStart => exact ⟨n, Nat.le_refl _, rfl, hL⟩
  case round =>
    obtain ⟨k, hkn, rfl, HA⟩ := hrel
    by_cases hk0 : k = 0
    · subst hk0
      go_wp2
      go_ret
      exact ⟨⟨0, Nat.zero_le _, rfl, HA.out, fun h => absurd rfl h⟩, rfl⟩
    · obtain ⟨j, hj⟩ : ∃ j, k = j + 1 := ⟨k - 1, by omega⟩
      subst hj
      have hck := HC.out j (by rw [hnl.out]; omega)
      have HZ := hid (natL_take_zero L j (by rw [hnl.out]; omega))
      obtain ⟨d, hd⟩ : ∃ d, Hid (L.getD j 0 = d) := ⟨_, rfl⟩
      rw [hd.out] at hck HZ
      have hcast : (((j + 1 : Nat) : Int) - 1) = (j : Int) := by omega
      have hcapj : j + 1 ≤ cap := by omega
      have hpos : ((j + 1 : Nat) : Int) > 0 := by omega
      by_cases hd0 : d = 0
      · subst hd0
        go_wp2
        exact ⟨⟨j, by omega, by go_num, (HZ.out rfl).symm.trans HA.out⟩, by simp [intOf]⟩
      · have hdb : ((d : Int) == 0) = false := by simpa using hd0
        have HD := hid hd0
        clear hd0
        go_wp2
        go_ret
        exact ⟨⟨j + 1, hkn, rfl, HA.out, fun _ => by rw [Nat.add_sub_cancel, hd.out]; exact HD.out⟩, rfl⟩
set_option maxHeartbeats 400000 in
theorem trim_none (cap : Nat) (a : Option Addr) (w : World) :
    Calls Tryz.prog 30 #[.slice a 0 cap] w fun r w' => r = .returned (.slice a 0 cap) ∧ w' = w := by
  go_enter Tryz.func30, Tryz.ntmps30
  go_wp2
  refine wp_loop_rounds 1 ?_
  rw [rounds_succ]
  go_wp2
  go_ret
  exact ⟨rfl, rfl⟩
theorem trim_any (L : List Nat) (a : Option Addr) (cap : Nat) (w : World) (h : MagAt w a L) (hcap : L.length ≤ cap) (hn : L.length ≤ 1099511627776) :
    Calls Tryz.prog 30 #[.slice a L.length cap] w fun r w' => (∃ k, k ≤ L.length ∧ r = .returned (.slice a k cap) ∧ natL (L.take k) = natL L ∧ EndOk L k) ∧ w' = w := by
  by_cases h0 : L.length = 0
  · have hl : L = [] := List.length_eq_zero_iff.1 h0
    rw [h0]
    refine (trim_none cap a w).mono ?_
    rintro r w' ⟨rfl, rfl⟩
    exact ⟨⟨0, Nat.le_refl _, rfl, by rw [hl]; rfl, fun c => absurd rfl c⟩, rfl⟩
  · obtain ⟨b, off, rfl, hb, _⟩ := h 0 (by omega)
    refine trim_some L b off cap w (fun i hi => ?_) hcap hn
    obtain ⟨b', off', e, _, hc⟩ := h i hi
    cases e
    exact hc
set_option maxHeartbeats 400000 in
theorem word_any (L : List Nat) (a : Option Addr) (cap i : Nat) (w : World) (h : MagAt w a L) :
    Calls Tryz.prog 60 #[.slice a L.length cap, .int .i64 i] w fun r w' => r = .returned (.int .u32 (L.getD i 0)) ∧ w' = w := by
  by_cases hi : i < L.length
  · obtain ⟨b, off, rfl, hb, hc⟩ := h i hi
    obtain ⟨d, hd⟩ : ∃ d, Hid (L.getD i 0 = d) := ⟨_, rfl⟩
    rw [hd.out] at hc ⊢
    obtain ⟨n, hnl⟩ : ∃ n, Hid (L.length = n) := ⟨_, rfl⟩
    rw [hnl.out] at hi ⊢
    have hii : (i : Int) < (n : Int) := by omega
    clear h hb
    go_enter Tryz.func60, Tryz.ntmps60
    go_wp2
    go_ret
    exact ⟨rfl, rfl⟩
  · have hd : L.getD i 0 = 0 := by simp [List.getD, hi]
    rw [hd]
    obtain ⟨n, hnl⟩ : ∃ n, Hid (L.length = n) := ⟨_, rfl⟩
    rw [hnl.out] at hi ⊢
    have hii : ¬ (i : Int) < (n : Int) := by omega
    clear h
    go_enter Tryz.func60, Tryz.ntmps60
    go_wp2
    go_ret
    exact ⟨rfl, rfl⟩
theorem ret_uu {a b a' b' : Int} (h1 : a = a') (h2 : b = b') : Ending.returned (.tuple #[.int .u32 a, .int .u32 b]) = .returned (.tuple #[.int .u32 a', .int .u32 b']) := by rw [h1, h2]
set_option maxHeartbeats 400000 in
theorem add32_any (x y c : Nat) (w : World) (hx : x < 4294967296) (hy : y < 4294967296) (hc : c ≤ 1) :
    Calls Tryz.prog 92 #[.int .u32 x, .int .u32 y, .int .u32 c] w fun r w' => r = .returned (.tuple #[.int .u32 ((x + y + c) % 4294967296 : Nat), .int .u32 ((x + y + c) / 4294967296 : Nat)]) ∧ w' = w := by
  have HX := hid hx
  have HY := hid hy
  have HC := hid hc
  clear hx hy hc
  go_enter Tryz.func92, Tryz.ntmps92
  go_wp2
  go_ret2
  have hx := HX.out
  have hy := HY.out
  have hc := HC.out
  exact ⟨ret_uu (by simp only [IntKind.wrap_u64]; omega) (by simp only [IntKind.wrap_u64]; omega), rfl⟩
theorem top32 (n : Nat) (h : n < 4294967296) : n / 2147483648 = (n.testBit 31).toNat ∧ n.testBit 31 = decide (2147483648 ≤ n) := by
  have e : n.testBit 31 = decide (n / 2147483648 % 2 = 1) := by
    rw [Nat.testBit_eq_decide_div_mod_eq]
  have e2 : decide (n / 2147483648 % 2 = 1) = decide (2147483648 ≤ n) := decide_eq_decide.2 (by omega)
  rw [e, e2]
  refine ⟨?_, rfl⟩
  by_cases c : 2147483648 ≤ n
  · rw [decide_eq_true c]; show _ = 1; omega
  · rw [decide_eq_false c]; show _ = 0; omega
/-- The borrow of a difference of words. -/
def bor (x y b : Nat) : Nat := if x < y + b then 1 else 0
def dif (x y b : Nat) : Nat := (x + 8589934592 - y - b) % 4294967296
theorem sub32_bits (x y b : Nat) (hx : x < 4294967296) (hy : y < 4294967296) (hb : b ≤ 1) :
    (((4294967295 - x) &&& y) ||| ((4294967295 - (x ^^^ y)) &&& dif x y b)) / 2147483648 = bor x y b := by
  have hd : dif x y b < 4294967296 := Nat.mod_lt _ (by decide)
  have hxy : x ^^^ y < 4294967296 := Nat.xor_lt_two_pow (n := 32) hx hy
  have h1 : ((4294967295 - x) &&& y) < 2 ^ 32 := Nat.and_lt_two_pow _ hy
  have h2 : ((4294967295 - (x ^^^ y)) &&& dif x y b) < 2 ^ 32 := Nat.and_lt_two_pow _ hd
  have h3 : (((4294967295 - x) &&& y) ||| ((4294967295 - (x ^^^ y)) &&& dif x y b)) < 4294967296 := Nat.or_lt_two_pow (n := 32) h1 h2
  have nx : (4294967295 - x).testBit 31 = !x.testBit 31 := by
    have := Nat.testBit_two_pow_sub_succ (n := 32) hx 31
    simpa using this
  have nxy : (4294967295 - (x ^^^ y)).testBit 31 = !(x ^^^ y).testBit 31 := by
    have := Nat.testBit_two_pow_sub_succ (n := 32) hxy 31
    simpa using this
  rw [(top32 _ h3).1, Nat.testBit_or, Nat.testBit_and, Nat.testBit_and, nx, nxy, Nat.testBit_xor, (top32 x hx).2, (top32 y hy).2, (top32 _ hd).2]
  unfold bor dif
  by_cases cx : 2147483648 ≤ x
  · by_cases cy : 2147483648 ≤ y
    · rw [decide_eq_true cx, decide_eq_true cy]
      by_cases c : x < y + b
      · rw [if_pos c, decide_eq_true (by omega)]; rfl
      · rw [if_neg c, decide_eq_false (by omega)]; rfl
    · rw [decide_eq_true cx, decide_eq_false cy, if_neg (by omega)]; simp
  · by_cases cy : 2147483648 ≤ y
    · rw [decide_eq_false cx, decide_eq_true cy, if_pos (by omega)]; simp
    · rw [decide_eq_false cx, decide_eq_false cy]
      by_cases c : x < y + b
      · rw [if_pos c, decide_eq_true (by omega)]; rfl
      · rw [if_neg c, decide_eq_false (by omega)]; rfl
theorem bnot32 (x : Nat) (h : x < 4294967296) : bits .xor .u32 IntKind.u32.max (x : Int) = ((4294967295 - x : Nat) : Int) := by
  have hm : IntKind.u32.max = ((4294967295 : Nat) : Int) := rfl
  rw [hm, u32_xor_nat 4294967295 x (by decide) h]
  congr 1
  apply Nat.eq_of_testBit_eq
  intro i
  have h1 := Nat.testBit_two_pow_sub_succ (n := 32) h i
  have h2 : (4294967295 : Nat).testBit i = decide (i < 32) := Nat.testBit_two_pow_sub_one 32 i
  have h3 : 2 ^ 32 - (x + 1) = 4294967295 - x := by simp only [Nat.reducePow]; omega
  rw [h3] at h1
  rw [h1, Nat.testBit_xor, h2]
  by_cases c : i < 32
  · rw [decide_eq_true c]; simp
  · rw [decide_eq_false c]
    have : x.testBit i = false := Nat.testBit_lt_two_pow (Nat.lt_of_lt_of_le h (by have : (2 : Nat) ^ 32 ≤ 2 ^ i := Nat.pow_le_pow_right (by decide) (by omega); simpa using this))
    rw [this]; rfl
theorem bor_w (x y b : Nat) (hx : x < 4294967296) (hy : y < 4294967296) (hb : b ≤ 1) : bits .or .u32 (bits .and .u32 (bits .xor .u32 IntKind.u32.max (x : Int)) (y : Int)) (bits .and .u32 (bits .xor .u32 IntKind.u32.max (bits .xor .u32 (x : Int) (y : Int))) (((x : Int) - y - b) % 4294967296)) / 2147483648 = (bor x y b : Int) := by
  have hd : dif x y b < 4294967296 := Nat.mod_lt _ (by decide)
  have hxy : x ^^^ y < 4294967296 := Nat.xor_lt_two_pow (n := 32) hx hy
  have h1 : ((4294967295 - x) &&& y) < 4294967296 := Nat.and_lt_two_pow (n := 32) _ hy
  have h2 : ((4294967295 - (x ^^^ y)) &&& dif x y b) < 4294967296 := Nat.and_lt_two_pow (n := 32) _ hd
  have e : ((x : Int) - y - b) % 4294967296 = (dif x y b : Int) := by unfold dif; omega
  rw [e, bnot32 x hx, u32_xor_nat x y hx hy, bnot32 _ hxy, u32_and_nat _ y (by omega) hy, u32_and_nat _ _ (by omega) hd, u32_or_nat _ _ h1 h2, ← sub32_bits x y b hx hy hb]
  omega
set_option maxHeartbeats 400000 in
theorem sub32_any (x y c : Nat) (w : World) (hx : x < 4294967296) (hy : y < 4294967296) (hc : c ≤ 1) :
    Calls Tryz.prog 59 #[.int .u32 x, .int .u32 y, .int .u32 c] w fun r w' => r = .returned (.tuple #[.int .u32 (dif x y c), .int .u32 (bor x y c)]) ∧ w' = w := by
  have HB := hid (bor_w x y c hx hy hc)
  have HD := hid (show (((x : Int) - y) % 4294967296 - c) % 4294967296 = (dif x y c : Int) by unfold dif; omega)
  obtain ⟨B, hB⟩ : ∃ B, Hid (bor x y c = B) := ⟨_, rfl⟩
  obtain ⟨D, hD⟩ : ∃ D, Hid (dif x y c = D) := ⟨_, rfl⟩
  rw [hB.out] at HB ⊢
  rw [hD.out] at HD ⊢
  clear hx hy hc
  have hsg : IntKind.u32.signed = false := rfl
  go_enter Tryz.func59, Tryz.ntmps59
  go_wp2
  go_ret2
  exact ⟨ret_uu HD.out HB.out, rfl⟩
end Go.Proofs.YtphdinjmkhefmaaGreatDoor
