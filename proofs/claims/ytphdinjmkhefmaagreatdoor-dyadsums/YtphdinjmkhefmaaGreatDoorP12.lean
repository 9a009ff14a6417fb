
/- What a product of lists of words comes to, step by step; no program is spoken of. -/
import Derived.Test.YtphdinjmkhefmaaGreatDoorP11
import Derived.Deep.RegionHeld3
namespace Go.Proofs.YtphdinjmkhefmaaGreatDoor
open Go Go.RowKit Go.IntWalk

def setW (o : Nat → Nat) (p v : Nat) : Nat → Nat := fun j => if j = p then v else o j
/-- One step of the inner loop: a word of the product is laid, the rest is carried. -/
theorem times_step (o : Nat → Nat) (n p x y c : Nat) (hp : p < n) : natF (setW o p ((x * y + o p + c) % 4294967296)) n + 4294967296 ^ (p + 1) * ((x * y + o p + c) / 4294967296) = natF o n + 4294967296 ^ p * (x * y + c) := by
  have h1 := natF_set o n p ((x * y + o p + c) % 4294967296) hp
  obtain ⟨t, ht⟩ : ∃ t, x * y + o p + c = t := ⟨_, rfl⟩
  rw [ht] at h1 ⊢
  have e0 : natF (setW o p (t % 4294967296)) n = natF (fun j => if j = p then t % 4294967296 else o j) n := rfl
  rw [e0, Nat.pow_succ]
  have hd : t = 4294967296 * (t / 4294967296) + t % 4294967296 := (Nat.div_add_mod t 4294967296).symm
  have h3 : 4294967296 ^ p * t = 4294967296 ^ p * 4294967296 * (t / 4294967296) + 4294967296 ^ p * (t % 4294967296) := by
    conv => lhs; rw [hd]
    rw [Nat.mul_add, Nat.mul_assoc]
  have h4 : 4294967296 ^ p * t = 4294967296 ^ p * (x * y + c) + 4294967296 ^ p * o p := by
    rw [← ht, ← Nat.mul_add]
    congr 1
    omega
  omega
/-- The words stay words, and the carry too. -/
theorem times_lt (x y u c : Nat) (hx : x < 4294967296) (hy : y < 4294967296) (hu : u < 4294967296) (hc : c < 4294967296) : x * y + u + c < 18446744073709551616 ∧ (x * y + u + c) / 4294967296 < 4294967296 := by
  have h : x * y ≤ 4294967295 * 4294967295 := Nat.mul_le_mul (by omega) (by omega)
  omega
/-- Ahead of the k-th round of the inner loop, in the i-th of the outer one. -/
def XInv (b : List Nat) (x i n V : Nat) (o : Nat → Nat) (k c : Nat) : Prop := natF o n + 4294967296 ^ (i + k) * c = V + 4294967296 ^ i * (x * natL (b.take k)) ∧ c < 4294967296 ∧ (∀ j, o j < 4294967296) ∧ (∀ j, i + b.length ≤ j → o j = 0)
theorem XInv.zero (b : List Nat) (x i n : Nat) (o : Nat → Nat) (hlt : ∀ j, o j < 4294967296) (hz : ∀ j, i + b.length ≤ j → o j = 0) : XInv b x i n (natF o n) o 0 0 :=
  ⟨by show natF o n + _ * 0 = natF o n + _ * (x * 0); simp, by decide, hlt, hz⟩
theorem XInv.step {b : List Nat} {x i n V : Nat} {o : Nat → Nat} {k c : Nat} (h : XInv b x i n V o k c) (hk : k < b.length) (hn : i + b.length ≤ n) (hx : x < 4294967296) (hb : DigL b) : XInv b x i n V (setW o (i + k) ((x * b.getD k 0 + o (i + k) + c) % 4294967296)) (k + 1) ((x * b.getD k 0 + o (i + k) + c) / 4294967296) := by
  obtain ⟨h1, h2, h3, h4⟩ := h
  refine ⟨?_, (times_lt x _ _ c hx (hb.get k) (h3 _) h2).2, fun j => ?_, fun j hj => ?_⟩
  · have hs := times_step o n (i + k) x (b.getD k 0) c (by omega)
    have e : i + (k + 1) = i + k + 1 := by omega
    rw [e, hs, natL_take_succ b k hk]
    rw [Nat.mul_add (4294967296 ^ (i + k))]
    have e3 : 4294967296 ^ i * (x * (natL (b.take k) + 4294967296 ^ k * b.getD k 0)) = 4294967296 ^ i * (x * natL (b.take k)) + 4294967296 ^ (i + k) * (x * b.getD k 0) := by
      rw [Nat.mul_add x, Nat.mul_add (4294967296 ^ i), Nat.pow_add, ← Nat.mul_assoc x, Nat.mul_comm x (4294967296 ^ k), Nat.mul_assoc (4294967296 ^ k), ← Nat.mul_assoc (4294967296 ^ i) (4294967296 ^ k)]
    rw [e3]
    omega
  · unfold setW
    split
    · exact Nat.mod_lt _ (by decide)
    · exact h3 j
  · unfold setW
    rw [if_neg (by omega)]
    exact h4 j hj
/-- Behind the inner loop the carry is laid too: a row more. -/
theorem XInv.row {b : List Nat} {x i n V : Nat} {o : Nat → Nat} {c : Nat} (h : XInv b x i n V o b.length c) (hn : i + b.length < n) : natF (setW o (i + b.length) c) n = V + 4294967296 ^ i * (x * natL b) ∧ (∀ j, setW o (i + b.length) c j < 4294967296) ∧ (∀ j, i + 1 + b.length ≤ j → setW o (i + b.length) c j = 0) := by
  obtain ⟨h1, h2, h3, h4⟩ := h
  rw [List.take_length] at h1
  have hs := natF_set o n (i + b.length) c hn
  rw [h4 _ (Nat.le_refl _), Nat.mul_zero, Nat.add_zero] at hs
  refine ⟨?_, fun j => ?_, fun j hj => ?_⟩
  · have e0 : natF (setW o (i + b.length) c) n = natF (fun j => if j = i + b.length then c else o j) n := rfl
    rw [e0, hs]
    exact h1
  · unfold setW
    split
    · exact h2
    · exact h3 j
  · unfold setW
    rw [if_neg (by omega)]
    exact h4 j (by omega)
end Go.Proofs.YtphdinjmkhefmaaGreatDoor

namespace Go.Proofs.YtphdinjmkhefmaaGreatDoor
open Go.RowKit Go.IntWalk

/-- What a function of magnitudes answers: words of a value, that need no cutting. -/
def MagOk (v bound : Nat) (r : Ending) (w' : World) : Prop := ∃ (L' : List Nat) (a' : Option Addr) (cap' : Nat), r = .returned (.slice a' L'.length cap') ∧ L'.length ≤ cap' ∧ L'.length ≤ bound ∧ MagAt w' a' L' ∧ DigL L' ∧ CanL L' ∧ natL L' = v
theorem MagOk.nil (bound : Nat) (w : World) (a : Option Addr) (cap : Nat) : MagOk 0 bound (.returned (.slice a 0 cap)) w :=
  ⟨[], a, cap, rfl, Nat.zero_le _, Nat.zero_le _, fun _ hi => absurd hi (Nat.not_lt_zero _), fun _ hd => absurd hd List.not_mem_nil, fun h => absurd rfl h, rfl⟩
set_option maxHeartbeats 400000 in
theorem left_nil (cap : Nat) (a : Option Addr) (N : Int) (w : World) :
    Calls Tryz.prog 89 #[.slice a 0 cap, .int .u64 N] w fun r w' => r = .returned (.slice none 0 0) ∧ w' = w := by
  go_enter Tryz.func89, Tryz.ntmps89
  go_wp2
  go_ret
  exact ⟨rfl, rfl⟩
theorem left_any (L : List Nat) (a : Option Addr) (cap q s : Nat) (w : World) (hm : MagAt w a L) (hs : s < 32) (hq : q ≤ 1000000) (hn : L.length ≤ 1000000) (hD : DigL L) :
    Calls Tryz.prog 89 #[.slice a L.length cap, .int .u64 ((32 * q + s : Nat) : Int)] w fun r w' => MagOk (natL L * 2 ^ (32 * q + s)) (q + L.length + 1) r w' ∧ Below w.heap.size w w' := by
  by_cases h0 : L.length = 0
  · have hl : L = [] := List.length_eq_zero_iff.1 h0
    subst hl
    refine (left_nil cap a _ w).mono ?_
    rintro r w' ⟨rfl, rfl⟩
    refine ⟨?_, Below.refl _ _⟩
    rw [show natL [] * 2 ^ (32 * q + s) = 0 from Nat.zero_mul _]
    exact MagOk.nil _ _ _ _
  · obtain ⟨b, off, rfl, hb, _⟩ := hm 0 (by omega)
    refine (left_loop L b off cap q s w hb (fun i hi => ?_) h0 hs hq hn hD).mono ?_
    · obtain ⟨b', off', e, _, hc⟩ := hm i hi
      cases e
      exact hc
    · rintro r w' ⟨⟨L', rfl, h1, h2, h3, h4, h5⟩, hb⟩
      exact ⟨⟨L', _, _, rfl, h1, h1, h2, h3, h4, h5⟩, hb⟩
/-- All is as it was but z, which is a whole number's block still. -/
def ZOk (z : Nat) (w w' : World) : Prop := But z w w' ∧ ∃ neg0 a0 n0 cap0, w'.heap[z]? = some (.cells #[.bool neg0, .slice a0 n0 cap0] 57)
theorem ZOk.below {z : Nat} {w w1 w2 : World} (h : ZOk z w w1) (hb : Below w1.heap.size w1 w2) : ZOk z w w2 := by
  obtain ⟨h1, a, b, c, d, h2⟩ := h
  exact ⟨h1.trans (But.of_below hb), a, b, c, d, by rw [hb.block z (int_cells h2).2.2.2]; exact h2⟩
theorem ZOk.drew {z : Nat} {w w1 : World} (h : ZOk z w w1) : ZOk z w w1.drew := h.below (Below.refl _ _).drew
theorem ZOk.big {z : Nat} {w w1 w2 : World} {neg : Bool} {L : List Nat} (_ : ZOk z w w1) (hb : But z w w2) (h2 : BigAt w2 z neg L) : ZOk z w w2 := by
  obtain ⟨a, cap, ho, _⟩ := h2
  exact ⟨hb, _, _, _, _, ho⟩
theorem But.cell {z : Nat} {w w' : World} (h : But z w w') {x o : Nat} {v : Value} (hc : w.cell? ⟨x, o, none⟩ = some v) (hx : x ≠ z) : w'.cell? ⟨x, o, none⟩ = some v := by
  rw [← hc]
  exact World.cell?_of_block (h.block x (World.block_lt_of_cell? w _ hc) hx)
/-- What a function of magnitudes has answered, its value taken apart. -/
def MagIs (v bound : Nat) (L' : List Nat) (a' : Option Addr) (cap' : Nat) (w' : World) : Prop := L'.length ≤ cap' ∧ L'.length ≤ bound ∧ MagAt w' a' L' ∧ DigL L' ∧ CanL L' ∧ natL L' = v
theorem put_is (z : Nat) (neg : Bool) (v bound : Nat) (w w1 : World) (L' : List Nat) (a' : Option Addr) (cap' : Nat) (hz : ZOk z w w1) (hM : MagIs v bound L' a' cap' w1) (hbd : bound ≤ 1099511627776) :
    Calls Tryz.prog 66 #[.pointer (some ⟨z, 0, none⟩), .bool neg, .slice a' L'.length cap'] w1 fun r w' => r = .returned (.pointer (some ⟨z, 0, none⟩)) ∧ ∃ L', natL L' = v ∧ L'.length ≤ bound ∧ BigAt w' z (neg && decide (v ≠ 0)) L' ∧ But z w w' := by
  obtain ⟨h1, h2, h3, h4, h5, h6⟩ := hM
  obtain ⟨hb, neg0, a0, n0, cap0, ho⟩ := hz
  have := put_any z neg neg0 a' a0 n0 cap' cap0 L' w1 ho h3 h4 h1 (by omega)
  refine this.mono ?_
  rintro r w' ⟨rfl, M, e1, e2, e3, e4⟩
  exact ⟨rfl, M, e1.trans h6, by omega, by rw [← h6]; exact e3, hb.trans e4⟩
/-- What a method leaves: z holds that number, all else is as it was. -/
def PutIs (z : Nat) (neg : Bool) (v bound : Nat) (w w' : World) : Prop := ∃ L', natL L' = v ∧ L'.length ≤ bound ∧ BigAt w' z neg L' ∧ But z w w'
set_option maxHeartbeats 1000000 in
theorem Lsh_any (z x : Nat) (neg : Bool) (q s : Nat) (L : List Nat) (w : World) (hz : ZOk z w w) (hxz : x ≠ z) (hx : BigAt w x neg L) (hs : s < 32) (hq : q ≤ 1000000) (hn : L.length ≤ 1000000) :
    Calls Tryz.prog 64 #[.pointer (some ⟨z, 0, none⟩), .pointer (some ⟨x, 0, none⟩), .int .u64 ((32 * q + s : Nat) : Int)] w fun r w' => r = .returned (.pointer (some ⟨z, 0, none⟩)) ∧ PutIs z neg (natL L * 2 ^ (32 * q + s)) (q + L.length + 1) w w' := by
  have HX := hid hx
  obtain ⟨a, cap, ho, hcap, hm, hd, hc, hneg⟩ := hx
  obtain ⟨c0, c1, hf, hlt⟩ := int_cells ho
  have HL : Hid (∀ w', ZOk z w w' → Calls Tryz.prog 89 #[.slice a L.length cap, .int .u64 ((32 * q + s : Nat) : Int)] w' fun r w1 => ∃ L' a' cap', r = .returned (.slice a' L'.length cap') ∧ Hid (MagIs (natL L * 2 ^ (32 * q + s)) (q + L.length + 1) L' a' cap' w1) ∧ Hid (ZOk z w w1)) := by
    intro w' hw
    obtain ⟨hb, hzz⟩ := hw
    obtain ⟨_, neg0, a0, n0, cap0, hoz⟩ := hz
    refine (left_any L a cap q s w' (hm.but hb (fun b off e h0 => ?_)) hs hq hn hd).mono ?_
    · obtain ⟨b', off', e', hne⟩ := mag_ne hoz hm h0
      rw [e] at e'
      cases e'
      exact hne
    · rintro r w1 ⟨⟨L', a', cap', hr, h1⟩, hb1⟩
      exact ⟨L', a', cap', hr, h1, ZOk.below ⟨hb, hzz⟩ hb1⟩
  have HN : Hid ((neg && decide (natL L * 2 ^ (32 * q + s) ≠ 0)) = neg) := by
    cases neg
    · rfl
    · have hne : L ≠ [] := fun c => by have := hneg c; simp at this
      have h1 : natL L ≠ 0 := fun c => hne ((natL_zero L hc).1 c)
      have h2 : 0 < natL L * 2 ^ (32 * q + s) := Nat.mul_pos (by omega) (Nat.two_pow_pos _)
      show (true && _) = true
      rw [Bool.true_and, decide_eq_true_eq]
      omega
  obtain ⟨v, hv⟩ : ∃ v, Hid (natL L * 2 ^ (32 * q + s) = v) := ⟨_, rfl⟩
  obtain ⟨bd, hbd⟩ : ∃ bd, Hid (q + L.length + 1 = bd) := ⟨_, rfl⟩
  rw [hv.out] at HL HN ⊢
  rw [hbd.out] at HL ⊢
  have HP : Hid (∀ w1 L' a' cap', Hid (ZOk z w w1) → Hid (MagIs v bd L' a' cap' w1) → Calls Tryz.prog 66 #[.pointer (some ⟨z, 0, none⟩), .bool neg, .slice a' L'.length cap'] w1 fun r w' => r = .returned (.pointer (some ⟨z, 0, none⟩)) ∧ Hid (PutIs z neg v bd w w') ∧ Hid (ZOk z w w')) := by
    intro w1 L' a' cap' h1 h2
    refine (put_is z neg v bd w w1 L' a' cap' h1.out h2.out (by have := hbd.out; omega)).mono ?_
    rintro r w' ⟨rfl, L', e1, e2, e3, e4⟩
    rw [HN.out] at e3
    exact ⟨rfl, ⟨L', e1, e2, e3, e4⟩, ZOk.big h1.out e4 e3⟩
  have HK : Hid (∀ w', Hid (ZOk z w w') → (w'.cell? ⟨x, 0, none⟩ = some (.bool neg) ∧ w'.cell? ⟨x, 1, none⟩ = some (.slice a L.length cap)) ∧ Hid (ZOk z w w')) := fun w' h => ⟨⟨h.out.1.cell c0 hxz, h.out.1.cell c1 hxz⟩, h⟩
  have HZ : Hid (ZOk z w w.drew) := hz.drew
  obtain ⟨N, hN⟩ : ∃ N : Int, Hid (((32 * q + s : Nat) : Int) = N) := ⟨_, rfl⟩
  rw [hN.out] at HL ⊢
  obtain ⟨n, hnl⟩ : ∃ n, Hid (L.length = n) := ⟨_, rfl⟩
  rw [hnl.out] at HL HK c1
  clear hz hs hq hn hm hd hc hneg ho hcap hf hxz
  go_enter Tryz.func64, Tryz.ntmps64
  go_wp2_with fail
  go_region_held3 (fun w' => (w'.cell? ⟨x, 0, none⟩ = some (.bool neg) ∧ w'.cell? ⟨x, 1, none⟩ = some (.slice a n cap)) ∧ Hid (ZOk z w w')) (exact HK.out _ (by assumption))
    (first
      | (go_at_call 89; refine (HL.out _ (Hid.out (And.right (by assumption)))).mono ?_; rintro r w1 ⟨L', a', cap', rfl, HM, HZ1⟩)
      | (go_at_call 66; refine (HP.out _ _ _ _ (by assumption) (by assumption)).mono ?_; rintro r w1 ⟨rfl, HE, HZ2⟩))
  all_goals go_wp2
  all_goals go_ret
  all_goals exact ⟨rfl, Hid.out (by assumption)⟩
end Go.Proofs.YtphdinjmkhefmaaGreatDoor
