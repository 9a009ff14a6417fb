
/- What a product of lists of words comes to, step by step; no program is spoken of. -/
import Derived.Test.YtijadahpddmhjaaGreatDoorP6
import Derived.Deep.RegionHeld3
namespace Go.Proofs.YtijadahpddmhjaaGreatDoor
open Go Go.RowKit Go.IntWalk

def setW (o : Nat → Nat) (p v : Nat) : Nat → Nat := fun j => if j = p then v else o j
/-- One step of the inner loop: a word of the product is laid, the rest is carried. -/
theorem times_step (o : Nat → Nat) (n p x y c : Nat) (hp : p < n) : natF (setW o p ((x * y + o p + c) % 4294967296)) n + 4294967296 ^ (p + 1) * ((x * y + o p + c) / 4294967296) = natF o n + 4294967296 ^ p * (x * y + c) := by
  have h1 := natF_set o n p ((x * y + o p + c) % 4294967296) hp
  obtain ⟨t, ht⟩ : ∃ t, x * y + o p + c = t := ⟨_, rfl⟩
  rw [ht] at h1 ⊢
  have e0 : natF (setW o p (t % 4294967296)) n = natF (fun j => if j = p then t % 4294967296 else o j) n := rfl
  rw [e0, Nat.pow_succ]
  have hd : t = 4294967296 * (t / 4294967296) + t % 4294967296 := (Nat.div_add_mod t 4294967296).symm
  have h3 : 4294967296 ^ p * t = 4294967296 ^ p * 4294967296 * (t / 4294967296) + 4294967296 ^ p * (t % 4294967296) := by
    conv => lhs; rw [hd]
    rw [Nat.mul_add, Nat.mul_assoc]
  have h4 : 4294967296 ^ p * t = 4294967296 ^ p * (x * y + c) + 4294967296 ^ p * o p := by
    rw [← ht, ← Nat.mul_add]
    congr 1
    omega
  omega
/-- The words stay words, and the carry too. -/
theorem times_lt (x y u c : Nat) (hx : x < 4294967296) (hy : y < 4294967296) (hu : u < 4294967296) (hc : c < 4294967296) : x * y + u + c < 18446744073709551616 ∧ (x * y + u + c) / 4294967296 < 4294967296 := by
  have h : x * y ≤ 4294967295 * 4294967295 := Nat.mul_le_mul (by omega) (by omega)
  omega
/-- Ahead of the k-th round of the inner loop, in the i-th of the outer one. -/
def XInv (b : List Nat) (x i n V : Nat) (o : Nat → Nat) (k c : Nat) : Prop := natF o n + 4294967296 ^ (i + k) * c = V + 4294967296 ^ i * (x * natL (b.take k)) ∧ c < 4294967296 ∧ (∀ j, o j < 4294967296) ∧ (∀ j, i + b.length ≤ j → o j = 0)
theorem XInv.zero (b : List Nat) (x i n : Nat) (o : Nat → Nat) (hlt : ∀ j, o j < 4294967296) (hz : ∀ j, i + b.length ≤ j → o j = 0) : XInv b x i n (natF o n) o 0 0 :=
  ⟨by show natF o n + _ * 0 = natF o n + _ * (x * 0); simp, by decide, hlt, hz⟩
theorem XInv.step {b : List Nat} {x i n V : Nat} {o : Nat → Nat} {k c : Nat} (h : XInv b x i n V o k c) (hk : k < b.length) (hn : i + b.length ≤ n) (hx : x < 4294967296) (hb : DigL b) : XInv b x i n V (setW o (i + k) ((x * b.getD k 0 + o (i + k) + c) % 4294967296)) (k + 1) ((x * b.getD k 0 + o (i + k) + c) / 4294967296) := by
  obtain ⟨h1, h2, h3, h4⟩ := h
  refine ⟨?_, (times_lt x _ _ c hx (hb.get k) (h3 _) h2).2, fun j => ?_, fun j hj => ?_⟩
  · have hs := times_step o n (i + k) x (b.getD k 0) c (by omega)
    have e : i + (k + 1) = i + k + 1 := by omega
    rw [e, hs, natL_take_succ b k hk]
    rw [Nat.mul_add (4294967296 ^ (i + k))]
    have e3 : 4294967296 ^ i * (x * (natL (b.take k) + 4294967296 ^ k * b.getD k 0)) = 4294967296 ^ i * (x * natL (b.take k)) + 4294967296 ^ (i + k) * (x * b.getD k 0) := by
      rw [Nat.mul_add x, Nat.mul_add (4294967296 ^ i), Nat.pow_add, ← Nat.mul_assoc x, Nat.mul_comm x (4294967296 ^ k), Nat.mul_assoc (4294967296 ^ k), ← Nat.mul_assoc (4294967296 ^ i) (4294967296 ^ k)]
    rw [e3]
    omega
  · unfold setW
    split
    · exact Nat.mod_lt _ (by decide)
    · exact h3 j
  · unfold setW
    rw [if_neg (by omega)]
    exact h4 j hj
/-- Behind the inner loop the carry is laid too: a row more. -/
theorem XInv.row {b : List Nat} {x i n V : Nat} {o : Nat → Nat} {c : Nat} (h : XInv b x i n V o b.length c) (hn : i + b.length < n) : natF (setW o (i + b.length) c) n = V + 4294967296 ^ i * (x * natL b) ∧ (∀ j, setW o (i + b.length) c j < 4294967296) ∧ (∀ j, i + 1 + b.length ≤ j → setW o (i + b.length) c j = 0) := by
  obtain ⟨h1, h2, h3, h4⟩ := h
  rw [List.take_length] at h1
  have hs := natF_set o n (i + b.length) c hn
  rw [h4 _ (Nat.le_refl _), Nat.mul_zero, Nat.add_zero] at hs
  refine ⟨?_, fun j => ?_, fun j hj => ?_⟩
  · have e0 : natF (setW o (i + b.length) c) n = natF (fun j => if j = i + b.length then c else o j) n := rfl
    rw [e0, hs]
    exact h1
  · unfold setW
    split
    · exact h2
    · exact h3 j
  · unfold setW
    rw [if_neg (by omega)]
    exact h4 j (by omega)
end Go.Proofs.YtijadahpddmhjaaGreatDoor

namespace Go.Proofs.YtijadahpddmhjaaGreatDoor
open Go.RowKit Go.IntWalk

/-- What a function of magnitudes answers: words of a value, that need no cutting. -/
def MagOk (v bound : Nat) (r : Ending) (w' : World) : Prop := ∃ (L' : List Nat) (a' : Option Addr) (cap' : Nat), r = .returned (.slice a' L'.length cap') ∧ L'.length ≤ cap' ∧ L'.length ≤ bound ∧ MagAt w' a' L' ∧ DigL L' ∧ CanL L' ∧ natL L' = v
theorem MagOk.nil (bound : Nat) (w : World) (a : Option Addr) (cap : Nat) : MagOk 0 bound (.returned (.slice a 0 cap)) w :=
  ⟨[], a, cap, rfl, Nat.zero_le _, Nat.zero_le _, fun _ hi => absurd hi (Nat.not_lt_zero _), fun _ hd => absurd hd List.not_mem_nil, fun h => absurd rfl h, rfl⟩
set_option maxHeartbeats 400000 in
theorem left_nil (cap : Nat) (a : Option Addr) (N : Int) (w : World) :
    Calls Tryz.prog 102 #[.slice a 0 cap, .int .u64 N] w fun r w' => r = .returned (.slice none 0 0) ∧ w' = w := by
  go_enter Tryz.func102, Tryz.ntmps102
  go_wp2
  go_ret
  exact ⟨rfl, rfl⟩
theorem left_any (L : List Nat) (a : Option Addr) (cap q s : Nat) (w : World) (hm : MagAt w a L) (hs : s < 32) (hq : q ≤ 1000000) (hn : L.length ≤ 1000000) (hD : DigL L) :
    Calls Tryz.prog 102 #[.slice a L.length cap, .int .u64 ((32 * q + s : Nat) : Int)] w fun r w' => MagOk (natL L * 2 ^ (32 * q + s)) (q + L.length + 1) r w' ∧ Below w.heap.size w w' := by
  by_cases h0 : L.length = 0
  · have hl : L = [] := List.length_eq_zero_iff.1 h0
    subst hl
    refine (left_nil cap a _ w).mono ?_
    rintro r w' ⟨rfl, rfl⟩
    refine ⟨?_, Below.refl _ _⟩
    rw [show natL [] * 2 ^ (32 * q + s) = 0 from Nat.zero_mul _]
    exact MagOk.nil _ _ _ _
  · obtain ⟨b, off, rfl, hb, _⟩ := hm 0 (by omega)
    refine (left_loop L b off cap q s w hb (fun i hi => ?_) h0 hs hq hn hD).mono ?_
    · obtain ⟨b', off', e, _, hc⟩ := hm i hi
      cases e
      exact hc
    · rintro r w' ⟨⟨L', rfl, h1, h2, h3, h4, h5⟩, hb⟩
      exact ⟨⟨L', _, _, rfl, h1, h1, h2, h3, h4, h5⟩, hb⟩
/-- All is as it was but z, which is a whole number's block still. -/
def ZOk (z : Nat) (w w' : World) : Prop := But z w w' ∧ ∃ neg0 a0 n0 cap0, w'.heap[z]? = some (.cells #[.bool neg0, .slice a0 n0 cap0] 63)
theorem ZOk.below {z : Nat} {w w1 w2 : World} (h : ZOk z w w1) (hb : Below w1.heap.size w1 w2) : ZOk z w w2 := by
  obtain ⟨h1, a, b, c, d, h2⟩ := h
  exact ⟨h1.trans (But.of_below hb), a, b, c, d, by rw [hb.block z (int_cells h2).2.2.2]; exact h2⟩
theorem ZOk.drew {z : Nat} {w w1 : World} (h : ZOk z w w1) : ZOk z w w1.drew := h.below (Below.refl _ _).drew
theorem ZOk.big {z : Nat} {w w1 w2 : World} {neg : Bool} {L : List Nat} (_ : ZOk z w w1) (hb : But z w w2) (h2 : BigAt w2 z neg L) : ZOk z w w2 := by
  obtain ⟨a, cap, ho, _⟩ := h2
  exact ⟨hb, _, _, _, _, ho⟩
theorem But.cell {z : Nat} {w w' : World} (h : But z w w') {x o : Nat} {v : Value} (hc : w.cell? ⟨x, o, none⟩ = some v) (hx : x ≠ z) : w'.cell? ⟨x, o, none⟩ = some v := by
  rw [← hc]
  exact World.cell?_of_block (h.block x (World.block_lt_of_cell? w _ hc) hx)
/-- What a function of magnitudes has answered, its value taken apart. -/
def MagIs (v bound : Nat) (L' : List Nat) (a' : Option Addr) (cap' : Nat) (w' : World) : Prop := L'.length ≤ cap' ∧ L'.length ≤ bound ∧ MagAt w' a' L' ∧ DigL L' ∧ CanL L' ∧ natL L' = v
theorem put_is (z : Nat) (neg : Bool) (v bound : Nat) (w w1 : World) (L' : List Nat) (a' : Option Addr) (cap' : Nat) (hz : ZOk z w w1) (hM : MagIs v bound L' a' cap' w1) (hbd : bound ≤ 1099511627776) :
    Calls Tryz.prog 77 #[.pointer (some ⟨z, 0, none⟩), .bool neg, .slice a' L'.length cap'] w1 fun r w' => r = .returned (.pointer (some ⟨z, 0, none⟩)) ∧ ∃ L', natL L' = v ∧ L'.length ≤ bound ∧ BigAt w' z (neg && decide (v ≠ 0)) L' ∧ But z w w' := by
  obtain ⟨h1, h2, h3, h4, h5, h6⟩ := hM
  obtain ⟨hb, neg0, a0, n0, cap0, ho⟩ := hz
  have := put_any z neg neg0 a' a0 n0 cap' cap0 L' w1 ho h3 h4 h1 (by omega)
  refine this.mono ?_
  rintro r w' ⟨rfl, M, e1, e2, e3, e4⟩
  exact ⟨rfl, M, e1.trans h6, by omega, by rw [← h6]; exact e3, hb.trans e4⟩
/-- What a method leaves: z holds that number, all else is as it was. -/
def PutIs (z : Nat) (neg : Bool) (v bound : Nat) (w w' : World) : Prop := ∃ L', natL L' = v ∧ L'.length ≤ bound ∧ BigAt w' z neg L' ∧ But z w w'
set_option maxHeartbeats 1000000 in
theorem Lsh_any (z x : Nat) (neg : Bool) (q s : Nat) (L : List Nat) (w : World) (hz : ZOk z w w) (hxz : x ≠ z) (hx : BigAt w x neg L) (hs : s < 32) (hq : q ≤ 1000000) (hn : L.length ≤ 1000000) :
    Calls Tryz.prog 88 #[.pointer (some ⟨z, 0, none⟩), .pointer (some ⟨x, 0, none⟩), .int .u64 ((32 * q + s : Nat) : Int)] w fun r w' => r = .returned (.pointer (some ⟨z, 0, none⟩)) ∧ PutIs z neg (natL L * 2 ^ (32 * q + s)) (q + L.length + 1) w w' := by
  have HX := hid hx
  obtain ⟨a, cap, ho, hcap, hm, hd, hc, hneg⟩ := hx
  obtain ⟨c0, c1, hf, hlt⟩ := int_cells ho
  have HL : Hid (∀ w', ZOk z w w' → Calls Tryz.prog 102 #[.slice a L.length cap, .int .u64 ((32 * q + s : Nat) : Int)] w' fun r w1 => ∃ L' a' cap', r = .returned (.slice a' L'.length cap') ∧ Hid (MagIs (natL L * 2 ^ (32 * q + s)) (q + L.length + 1) L' a' cap' w1) ∧ Hid (ZOk z w w1)) := by
    intro w' hw
    obtain ⟨hb, hzz⟩ := hw
    obtain ⟨_, neg0, a0, n0, cap0, hoz⟩ := hz
    refine (left_any L a cap q s w' (hm.but hb (fun b off e h0 => ?_)) hs hq hn hd).mono ?_
    · obtain ⟨b', off', e', hne⟩ := mag_ne hoz hm h0
      rw [e] at e'
      cases e'
      exact hne
    · rintro r w1 ⟨⟨L', a', cap', hr, h1⟩, hb1⟩
      exact ⟨L', a', cap', hr, h1, ZOk.below ⟨hb, hzz⟩ hb1⟩
  have HN : Hid ((neg && decide (natL L * 2 ^ (32 * q + s) ≠ 0)) = neg) := by
    cases neg
    · rfl
    · have hne : L ≠ [] := fun c => by have := hneg c; simp at this
      have h1 : natL L ≠ 0 := fun c => hne ((natL_zero L hc).1 c)
      have h2 : 0 < natL L * 2 ^ (32 * q + s) := Nat.mul_pos (by omega) (Nat.two_pow_pos _)
      show (true && _) = true
      rw [Bool.true_and, decide_eq_true_eq]
      omega
  obtain ⟨v, hv⟩ : ∃ v, Hid (natL L * 2 ^ (32 * q + s) = v) := ⟨_, rfl⟩
  obtain ⟨bd, hbd⟩ : ∃ bd, Hid (q + L.length + 1 = bd) := ⟨_, rfl⟩
  rw [hv.out] at HL HN ⊢
  rw [hbd.out] at HL ⊢
  have HP : Hid (∀ w1 L' a' cap', Hid (ZOk z w w1) → Hid (MagIs v bd L' a' cap' w1) → Calls Tryz.prog 77 #[.pointer (some ⟨z, 0, none⟩), .bool neg, .slice a' L'.length cap'] w1 fun r w' => r = .returned (.pointer (some ⟨z, 0, none⟩)) ∧ Hid (PutIs z neg v bd w w') ∧ Hid (ZOk z w w')) := by
    intro w1 L' a' cap' h1 h2
    refine (put_is z neg v bd w w1 L' a' cap' h1.out h2.out (by have := hbd.out; omega)).mono ?_
    rintro r w' ⟨rfl, L', e1, e2, e3, e4⟩
    rw [HN.out] at e3
    exact ⟨rfl, ⟨L', e1, e2, e3, e4⟩, ZOk.big h1.out e4 e3⟩
  have HK : Hid (∀ w', Hid (ZOk z w w') → (w'.cell? ⟨x, 0, none⟩ = some (.bool neg) ∧ w'.cell? ⟨x, 1, none⟩ = some (.slice a L.length cap)) ∧ Hid (ZOk z w w')) := fun w' h => ⟨⟨h.out.1.cell c0 hxz, h.out.1.cell c1 hxz⟩, h⟩
  have HZ : Hid (ZOk z w w.drew) := hz.drew
  obtain ⟨N, hN⟩ : ∃ N : Int, Hid (((32 * q + s : Nat) : Int) = N) := ⟨_, rfl⟩
  rw [hN.out] at HL ⊢
  obtain ⟨n, hnl⟩ : ∃ n, Hid (L.length = n) := ⟨_, rfl⟩
  rw [hnl.out] at HL HK c1
  clear hz hs hq hn hm hd hc hneg ho hcap hf hxz
  go_enter Tryz.func88, Tryz.ntmps88
  go_wp2_with fail
  go_region_held3 (fun w' => (w'.cell? ⟨x, 0, none⟩ = some (.bool neg) ∧ w'.cell? ⟨x, 1, none⟩ = some (.slice a n cap)) ∧ Hid (ZOk z w w')) (exact HK.out _ (by assumption))
    (first
      | (go_at_call 102; refine (HL.out _ (Hid.out (And.right (by assumption)))).mono ?_; rintro r w1 ⟨L', a', cap', rfl, HM, HZ1⟩)
      | (go_at_call 77; refine (HP.out _ _ _ _ (by assumption) (by assumption)).mono ?_; rintro r w1 ⟨rfl, HE, HZ2⟩))
  all_goals go_wp2
  all_goals go_ret
  all_goals exact ⟨rfl, Hid.out (by assumption)⟩
end Go.Proofs.YtijadahpddmhjaaGreatDoor

namespace Go.Proofs.YtijadahpddmhjaaGreatDoor
open Go.RowKit Go.IntWalk

theorem natF_digits (Y k : Nat) : natF (fun i => Y / 4294967296 ^ i % 4294967296) k = Y % 4294967296 ^ k := by
  induction k with
  | zero => show 0 = Y % 1; omega
  | succ k ih =>
    show natF _ k + 4294967296 ^ k * (Y / 4294967296 ^ k % 4294967296) = _
    rw [ih, Nat.mod_pow_succ]
theorem natL_drop (L : List Nat) (j : Nat) : natL (L.drop j) = L.getD j 0 + 4294967296 * natL (L.drop (j + 1)) := by
  by_cases h : j < L.length
  · rw [List.drop_eq_getElem_cons h]
    show L[j] + _ = _
    simp [List.getD, h]
  · rw [List.drop_eq_nil_of_le (by omega), List.drop_eq_nil_of_le (by omega)]
    simp [List.getD, h, natL]
theorem natL_div (L : List Nat) (hD : DigL L) (j : Nat) : natL L / 4294967296 ^ j = natL (L.drop j) := by
  by_cases h : j ≤ L.length
  · have e := natL_append (L.take j) (L.drop j)
    rw [List.take_append_drop, List.length_take, Nat.min_eq_left h] at e
    have hlt := natL_lt (L.take j) (hD.take j)
    rw [List.length_take, Nat.min_eq_left h] at hlt
    rw [e, Nat.add_mul_div_left _ _ (Nat.pow_pos (by decide)), Nat.div_eq_of_lt hlt, Nat.zero_add]
  · rw [List.drop_eq_nil_of_le (by omega)]
    have h1 := natL_lt L hD
    have h2 : 4294967296 ^ L.length ≤ 4294967296 ^ j := Nat.pow_le_pow_right (by decide) (by omega)
    exact Nat.div_eq_of_lt (by omega)
/-- A word of the shifted number. -/
def rWord (L : List Nat) (q s k : Nat) : Nat := natL L / 2 ^ (32 * q + s) / 4294967296 ^ k % 4294967296
theorem rWord_is (L : List Nat) (hD : DigL L) (q s k : Nat) (hs : s < 32) : (L.getD (q + k) 0 + 4294967296 * L.getD (q + k + 1) 0) / 2 ^ s % 4294967296 = rWord L q s k := by
  unfold rWord
  rw [Nat.div_div_eq_div_mul, show 2 ^ (32 * q + s) * 4294967296 ^ k = 4294967296 ^ (q + k) * 2 ^ s by rw [pow32, pow32, ← Nat.pow_add, ← Nat.pow_add]; congr 1; omega, ← Nat.div_div_eq_div_mul, natL_div L hD, natL_drop, natL_drop]
  obtain ⟨d, hd⟩ : ∃ d, L.getD (q + k) 0 = d := ⟨_, rfl⟩
  obtain ⟨e, he⟩ : ∃ e, L.getD (q + k + 1) 0 = e := ⟨_, rfl⟩
  obtain ⟨r, hr⟩ : ∃ r, natL (List.drop (q + k + 1 + 1) L) = r := ⟨_, rfl⟩
  rw [hd, he, hr]
  have hB : (4294967296 : Nat) = 2 ^ s * 2 ^ (32 - s) := by rw [← Nat.pow_add, Nat.add_sub_cancel' (by omega)]
  have e1 : d + 4294967296 * (e + 4294967296 * r) = (d + 4294967296 * e) + 2 ^ s * (4294967296 * (2 ^ (32 - s) * r)) := by
    rw [Nat.mul_add, Nat.add_assoc]
    congr 2
    conv => lhs; rw [← Nat.mul_assoc, Nat.mul_comm 4294967296 4294967296, Nat.mul_assoc]
    rw [Nat.mul_left_comm (2 ^ s)]
    congr 1
    rw [← Nat.mul_assoc, ← hB]
  rw [e1, Nat.add_mul_div_left _ _ (Nat.two_pow_pos s), Nat.add_mul_mod_self_left]
theorem right_val (L : List Nat) (hD : DigL L) (q s M : Nat) (hM : L.length ≤ q + M) : natF (rWord L q s) M = natL L / 2 ^ (32 * q + s) := by
  show natF (fun i => natL L / 2 ^ (32 * q + s) / 4294967296 ^ i % 4294967296) M = _
  rw [natF_digits]
  apply Nat.mod_eq_of_lt
  have h1 := natL_lt L hD
  have h2 : 4294967296 ^ L.length ≤ 4294967296 ^ (q + M) := Nat.pow_le_pow_right (by decide) hM
  rw [Nat.div_lt_iff_lt_mul (Nat.two_pow_pos _)]
  have h3 : 4294967296 ^ (q + M) ≤ 4294967296 ^ M * 2 ^ (32 * q + s) := by
    rw [pow32, pow32, ← Nat.pow_add]
    exact Nat.pow_le_pow_right (by decide) (by omega)
  omega
set_option maxHeartbeats 400000 in
theorem right_nil (a : Option Addr) (n cap q s : Nat) (w : World) (hs : s < 32) (hq : q ≤ 1000000) (hn : n ≤ q) :
    Calls Tryz.prog 82 #[.slice a n cap, .int .u64 ((32 * q + s : Nat) : Int)] w fun r w' => r = .returned (.slice none 0 0) ∧ w' = w := by
  obtain ⟨N, hN⟩ : ∃ N : Int, Hid (((32 * q + s : Nat) : Int) = N) := ⟨_, rfl⟩
  rw [hN.out]
  have hdiv : N / 32 = (q : Int) := by have := hN.out; omega
  have hle : (n : Int) ≤ (q : Int) := by omega
  have hqi : (q : Int) ≤ 1000000 := by omega
  clear hs hq
  go_enter Tryz.func82, Tryz.ntmps82
  go_wp2
  go_ret
  exact ⟨rfl, rfl⟩
theorem right_row (L : List Nat) (q s k r j : Nat) (hr : rWord L q s k = r) : (if j = k then Value.int .u32 (r : Int) else Value.int .u32 ((if j < k then rWord L q s j else 0 : Nat) : Int)) = Value.int .u32 ((if j < k + 1 then rWord L q s j else 0 : Nat) : Int) := by
  by_cases c : j = k
  · subst c
    rw [if_pos rfl, if_pos (by omega), hr]
  · rw [if_neg c]
    by_cases c2 : j < k
    · rw [if_pos c2, if_pos (by omega)]
    · rw [if_neg c2, if_neg (by omega)]
set_option maxRecDepth 4000 in
set_option maxHeartbeats 1000000 in
theorem right_loop (L : List Nat) (b off cap q s : Nat) (w : World) (hb : b < w.heap.size) (hcell : ∀ i, i < L.length → w.cell? ⟨b, off + i, none⟩ = some (.int .u32 (L.getD i 0))) (h0 : q < L.length) (hs : s < 32) (hq : q ≤ 1000000) (hn : L.length ≤ 1000000) (hD : DigL L) :
    Calls Tryz.prog 82 #[.slice (some ⟨b, off, none⟩) L.length cap, .int .u64 ((32 * q + s : Nat) : Int)] w fun r w' => MagOk (natL L / 2 ^ (32 * q + s)) L.length r w' ∧ Below w.heap.size w w' := by
  have HC := hid hcell
  have HB := hid hb
  have HS := hid hs
  obtain ⟨n, hnl⟩ : ∃ n, Hid (L.length = n) := ⟨_, rfl⟩
  rw [hnl.out] at hn h0 ⊢
  obtain ⟨N, hN⟩ : ∃ N : Int, Hid (((32 * q + s : Nat) : Int) = N) := ⟨_, rfl⟩
  rw [hN.out]
  have hdiv : N / 32 = (q : Int) := by have := hN.out; omega
  have hmod : N % 32 = (s : Int) := by have := hN.out; omega
  have hqn : ¬ (n : Int) ≤ (q : Int) := by omega
  obtain ⟨M, hM⟩ : ∃ M, Hid (n - q = M) := ⟨_, rfl⟩
  have hM1 : IntKind.i64.wrap ((n : Int) - (q : Int)) = (M : Int) := by have := hM.out; rw [IntWalk.i64_in _ (by omega)]; omega
  have hM2 : (n : Int) - (q : Int) = (M : Int) := by have := hM.out; omega
  have hMn : q + M = n := by have := hM.out; omega
  have hmk := run_make_row' (P := Tryz.prog) 61 95 (.int .u32 0) 4 Tryz.underlying61 infoU rfl .i64 .i64 M (by have := hM.out; omega) (by have := hM.out; omega)
  have HMN := hid hMn
  clear hcell h0 hb hs hMn
  go_enter Tryz.func82, Tryz.ntmps82
  go_wp2
  go_loopw [8] (fun i wr => ∃ (k : Nat), k ≤ M ∧ i = .int .i64 k ∧ Hid (wr.rowIs w.heap.size 95 M (fun j => .int .u32 ((if j < k then rWord L q s j else 0 : Nat) : Int))) ∧ Hid (Below w.heap.size w wr)) (fun i _ => M - (intOf i).toNat)
  case atStart => exact ⟨0, Nat.zero_le _, rfl, (World.rowIs_made w (.int .u32 0) M _).congr (fun j _ => by rw [if_neg (Nat.not_lt_zero j)]; rfl), (Below.refl _ _).alloc (Nat.le_refl _) _⟩
  case round =>
    obtain ⟨k, hkM, rfl, HR, HBW⟩ := hrel
    by_cases hlt : k < M
    · obtain ⟨P, hP⟩ : ∃ P, Hid (q + k = P) := ⟨_, rfl⟩
      have hPn : P < n := by have := hP.out; have := HMN.out; omega
      have hPI : (P : Int) < (n : Int) := by omega
      have hP1 : IntKind.i64.wrap ((q : Int) + (k : Int)) = (P : Int) := by have := hP.out; rw [IntWalk.i64_in _ (by omega)]; omega
      have hP2 : (q : Int) + (k : Int) = (P : Int) := by have := hP.out; omega
      have hck : wr.cell? ⟨b, off + P, none⟩ = some (.int .u32 (L.getD P 0)) := by
        rw [HBW.out.cell (p := ⟨b, off + P, none⟩) HB.out]
        exact HC.out P (by rw [hnl.out]; exact hPn)
      have hdl := hD.get P
      have hel := hD.get (P + 1)
      have hrw := rWord_is L hD q s k HS.out
      rw [hP.out] at hrw
      have hmin : min s 64 = s := Nat.min_eq_left (by have := HS.out; omega)
      have hkI : (k : Int) < (M : Int) := by omega
      have fx := HR.out.frozen
      have hlt2 := HR.out.lt
      have cx := HR.out.cell (i := k) (by omega)
      rw [if_neg (Nat.lt_irrefl k)] at cx
      obtain ⟨d, hd⟩ : ∃ d, Hid (L.getD P 0 = d) := ⟨_, rfl⟩
      rw [hd.out] at hck hdl hrw
      have hwd : IntKind.u64.wrap (d : Int) = (d : Int) := by rw [IntKind.wrap_u64]; omega
      obtain ⟨r, hr⟩ : ∃ r, Hid (rWord L q s k = r) := ⟨_, rfl⟩
      have HROW : Hid (∀ j, (if j = k then Value.int .u32 (r : Int) else Value.int .u32 ((if j < k then rWord L q s j else 0 : Nat) : Int)) = Value.int .u32 ((if j < k + 1 then rWord L q s j else 0 : Nat) : Int)) := fun j => right_row L q s k r j hr.out
      rw [hr.out] at hrw
      have HF : Hid (wr.rowIs w.heap.size 95 M (fun j => .int .u32 ((if j < k then rWord L q s j else 0 : Nat) : Int)) ∧ Below w.heap.size w wr) := ⟨HR.out, HBW.out⟩
      clear HR HBW hr
      by_cases hc : P + 1 < n
      · have hck2 : wr.cell? ⟨b, off + (P + 1), none⟩ = some (.int .u32 (L.getD (P + 1) 0)) := by
          rw [HF.out.2.cell (p := ⟨b, off + (P + 1), none⟩) HB.out]
          exact HC.out (P + 1) (by rw [hnl.out]; exact hc)
        obtain ⟨e, he⟩ : ∃ e, Hid (L.getD (P + 1) 0 = e) := ⟨_, rfl⟩
        rw [he.out] at hck2 hel hrw
        have hwe : IntKind.u64.wrap (e : Int) = (e : Int) := by rw [IntKind.wrap_u64]; omega
        have hor := or_words d e hdl hel
        have hcI : (P : Int) + 1 < (n : Int) := by omega
        obtain ⟨T, hT⟩ : ∃ T, Hid (d + 4294967296 * e = T) := ⟨_, rfl⟩
        rw [hT.out] at hor hrw
        have hsh : IntKind.u32.wrap ((T : Int) / 2 ^ s) = (r : Int) := by
          rw [IntKind.wrap_u32, show ((T : Int) / 2 ^ s) = ((T / 2 ^ s : Nat) : Int) by rw [Int.natCast_ediv, Int.natCast_pow]; rfl]
          omega
        clear hdl hel hrw
        go_wp2
        refine ⟨⟨k + 1, by omega, by go_num, (HF.out.1.set k _).congr (fun j _ => HROW.out j), Below.setCell HF.out.2 (Nat.le_refl _) _⟩, ?_⟩
        simp [intOf]; omega
      · have he : L.getD (P + 1) 0 = 0 := by
          have hn' : ¬ P + 1 < L.length := by rw [hnl.out]; exact hc
          simp [List.getD, hn']
        rw [he, Nat.mul_zero, Nat.add_zero] at hrw
        have hcI : (n : Int) ≤ (P : Int) + 1 := by omega
        have hsh : IntKind.u32.wrap ((d : Int) / 2 ^ s) = (r : Int) := by
          rw [IntKind.wrap_u32, show ((d : Int) / 2 ^ s) = ((d / 2 ^ s : Nat) : Int) by rw [Int.natCast_ediv, Int.natCast_pow]; rfl]
          omega
        clear hdl hel hrw he
        go_wp2
        refine ⟨⟨k + 1, by omega, by go_num, (HF.out.1.set k _).congr (fun j _ => HROW.out j), Below.setCell HF.out.2 (Nat.le_refl _) _⟩, ?_⟩
        simp [intOf]; omega
    · have hkn' : k = M := by omega
      subst hkn'
      have HL := hid (show ((List.range k).map (rWord L q s)).length = k by rw [List.length_map, List.length_range])
      have HR2 : Hid (wr.rowIs w.heap.size 95 k (fun j => .int .u32 (rWord L q s j))) := HR.out.congr (fun j hj => by rw [if_pos hj])
      have HCUT := hid (bcut_any ((List.range k).map (rWord L q s)) (some ⟨w.heap.size, 0, none⟩) k wr (row_mag wr _ k _ _ HR2.out) (by rw [HL.out]; exact Nat.le_refl _) (by rw [HL.out]; have := HMN.out; omega))
      rw [HL.out] at HCUT
      clear HR
      go_wp2_with fail
      refine HCUT.out.mono ?_
      rintro r w1 ⟨⟨j, hj, rfl, hv, he⟩, rfl⟩
      have hDo : DigL ((List.range k).map (rWord L q s)) := by
        intro d hd
        obtain ⟨i, _, rfl⟩ := List.mem_map.1 hd
        exact Nat.mod_lt _ (by decide)
      obtain ⟨hcan, hlen⟩ := can_take _ j (by rw [HL.out]; exact hj) he
      have HF : Hid (MagOk (natL L / 2 ^ (32 * q + s)) n (.returned (.slice (some ⟨w.heap.size, 0, none⟩) j k)) w1) := by
        refine ⟨((List.range k).map (rWord L q s)).take j, _, k, by rw [hlen], by rw [hlen]; exact hj, by rw [hlen]; have := HMN.out; omega, (row_mag w1 _ k _ _ HR2.out).take j, hDo.take j, hcan, ?_⟩
        rw [hv, natF_list]
        exact right_val L hD q s k (by rw [hnl.out]; have := HMN.out; omega)
      clear hv he hcan hlen hDo hj
      go_wp2
      go_ret
      exact ⟨HF.out, HBW.out⟩
theorem right_any (L : List Nat) (a : Option Addr) (cap q s : Nat) (w : World) (hm : MagAt w a L) (hs : s < 32) (hq : q ≤ 1000000) (hn : L.length ≤ 1000000) (hD : DigL L) :
    Calls Tryz.prog 82 #[.slice a L.length cap, .int .u64 ((32 * q + s : Nat) : Int)] w fun r w' => MagOk (natL L / 2 ^ (32 * q + s)) L.length r w' ∧ Below w.heap.size w w' := by
  by_cases h0 : q < L.length
  · obtain ⟨b, off, rfl, hb, _⟩ := hm 0 (by omega)
    refine right_loop L b off cap q s w hb (fun i hi => ?_) h0 hs hq hn hD
    obtain ⟨b', off', e, _, hc⟩ := hm i hi
    cases e
    exact hc
  · refine (right_nil a L.length cap q s w hs hq (by omega)).mono ?_
    rintro r w' ⟨rfl, rfl⟩
    refine ⟨?_, Below.refl _ _⟩
    have e : natL L / 2 ^ (32 * q + s) = 0 := by
      rw [Nat.pow_add, ← pow32, ← Nat.div_div_eq_div_mul, natL_div L hD, List.drop_eq_nil_of_le (by omega)]
      exact Nat.zero_div _
    rw [e]
    exact MagOk.nil _ _ _ _
end Go.Proofs.YtijadahpddmhjaaGreatDoor
