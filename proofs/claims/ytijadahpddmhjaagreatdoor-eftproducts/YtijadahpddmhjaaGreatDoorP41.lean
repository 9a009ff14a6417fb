
/- What dyad's Sum and Dot answer of what is not finite. -/
import Derived.Test.YtijadahpddmhjaaGreatDoorP40
import Derived.Test.YtijadahpddmhjaaGreatDoorP3
namespace Go.Proofs.YtijadahpddmhjaaGreatDoor
open Go.RowKit Go.IntWalk

def BitL (zs : List Nat) : Prop := ∀ i, i < zs.length → zs.getD i 0 < 18446744073709551616
set_option maxHeartbeats 1000000 in
theorem Dot_bad (xs ys : List Nat) (b off cap b2 off2 cap2 : Nat) (w : World) (hlen : ys.length = xs.length) (hm : NumsAt w b off xs) (hm2 : NumsAt w b2 off2 ys) (hz : BitL xs) (hz2 : BitL ys) (hf : (allFin xs && allFin ys) = false) (hn : xs.length ≤ 140737488355328) :
    Calls Tryz.prog 71 #[.slice (some ⟨b, off, none⟩) xs.length cap, .slice (some ⟨b2, off2, none⟩) ys.length cap2] w fun r w' => r = .returned (.tuple #[.agg #[.bool false, .slice none 0 0, .int .i64 0], .int .i64 4]) ∧ Below w.heap.size w w' := by
  have HFI : Hid (∀ W, Below w.heap.size w W → Calls Tryz.prog 33 #[.slice (some ⟨b, off, none⟩) xs.length cap] W fun r w' => r = .returned (.bool (allFin xs)) ∧ Below W.heap.size W w') := fun W hW => by
    have hmW := hm.below hW
    exact Finite_any xs b off cap W hmW.1 hmW.2 hz hn
  have HFI2 : Hid (∀ W, Below w.heap.size w W → Calls Tryz.prog 33 #[.slice (some ⟨b2, off2, none⟩) ys.length cap2] W fun r w' => r = .returned (.bool (allFin ys)) ∧ Below W.heap.size W w') := fun W hW => by
    have hmW := hm2.below hW
    exact Finite_any ys b2 off2 cap2 W hmW.1 hmW.2 hz2 (by omega)
  obtain ⟨n, hnl⟩ : ∃ n, Hid (xs.length = n) := ⟨_, rfl⟩
  have hnl2 : Hid (ys.length = n) := hlen.trans hnl.out
  rw [hnl.out] at HFI ⊢
  rw [hnl2.out] at HFI2 ⊢
  obtain ⟨f1, hf1⟩ : ∃ f, Hid (allFin xs = f) := ⟨_, rfl⟩
  obtain ⟨f2, hf2⟩ : ∃ f, Hid (allFin ys = f) := ⟨_, rfl⟩
  rw [hf1.out] at HFI hf
  rw [hf2.out] at HFI2 hf
  clear hm hm2 hz hz2 hn hlen hf1 hf2
  cases f1
  · clear hf HFI2
    go_enter Tryz.func71, Tryz.ntmps71
    go_wp2_with fail
    refine (HFI.out _ ((Below.refl _ _).alloc (Nat.le_refl _) _)).mono ?_
    rintro r w1 ⟨rfl, hb1⟩
    have hsz : w.heap.size < w1.heap.size := by have := hb1.size; simp at this; omega
    obtain ⟨hc, hf⟩ := bcell hb1
    have HB1 : Hid (Below w.heap.size w w1) := ((Below.refl _ _).alloc (Nat.le_refl _) _).trans (hb1.mono (by simp))
    clear hb1
    go_wp2
    exact bodyPost_ret (v := .tuple #[.agg #[.bool false, .slice none 0 0, .int .i64 0], .int .i64 4]) (by simp [results, Tryz.results71, go_sem, hc]) rfl ⟨rfl, Below.setCell (Below.setCell (Below.setCell HB1.out (Nat.le_refl _) _) (Nat.le_refl _) _) (Nat.le_refl _) _⟩
  · cases f2
    · clear hf
      go_enter Tryz.func71, Tryz.ntmps71
      go_wp2_with fail
      refine (HFI.out _ ((Below.refl _ _).alloc (Nat.le_refl _) _)).mono ?_
      rintro r w0 ⟨rfl, hb0⟩
      have HBW0 : Hid (Below w.heap.size w w0) := ((Below.refl _ _).alloc (Nat.le_refl _) _).trans (hb0.mono (by simp))
      have hsz0 : w.heap.size < w0.heap.size := by have := hb0.size; simp at this; omega
      obtain ⟨hc0, hf0⟩ := bcell hb0
      clear hb0
      go_wp2_with fail
      refine (HFI2.out _ HBW0.out).mono ?_
      rintro r w1 ⟨rfl, hb1⟩
      have hsz : w.heap.size < w1.heap.size := by have := hb1.size; omega
      obtain ⟨hc, hf⟩ := bcell hb1
      have HB1 : Hid (Below w.heap.size w w1) := HBW0.out.trans (hb1.mono HBW0.out.size)
      clear hb1
      go_wp2
      exact bodyPost_ret (v := .tuple #[.agg #[.bool false, .slice none 0 0, .int .i64 0], .int .i64 4]) (by simp [results, Tryz.results71, go_sem, hc, hc0, hsz0]) rfl ⟨rfl, Below.setCell (Below.setCell (Below.setCell HB1.out (Nat.le_refl _) _) (Nat.le_refl _) _) (Nat.le_refl _) _⟩
    · exact absurd hf (by decide)
end Go.Proofs.YtijadahpddmhjaaGreatDoor

namespace Go.Proofs.YtijadahpddmhjaaGreatDoor
open Go Go.RowKit Go.IntWalk

/-- The next number's bits. -/
def nextOf (x : Nat) : Nat :=
  if canonOf x = 9221120237041090561 ∨ canonOf x = 9218868437227405312 then canonOf x else if canonOf x = 9223372036854775808 then 1 else if 9223372036854775808 ≤ canonOf x then canonOf x - 1 else canonOf x + 1
/-- The bits with the other sign. -/
def flipOf (x : Nat) : Nat := if 9223372036854775808 ≤ x then x - 9223372036854775808 else x + 9223372036854775808
def prevOf (x : Nat) : Nat := if canonOf x = 9221120237041090561 then 9221120237041090561 else flipOf (nextOf (flipOf (canonOf x)))
theorem canon_cases (x : Nat) : canonOf x = 9221120237041090561 ∨ canonOf x % 9223372036854775808 ≤ 9218868437227405312 := by
  unfold canonOf
  split
  · exact Or.inl rfl
  · right; omega
theorem next_lt {x : Nat} (hx : x < 18446744073709551616) : nextOf x < 18446744073709551616 := by
  have := canon_lt hx
  have := canon_cases x
  unfold nextOf
  split
  · omega
  · split
    · omega
    · split <;> omega
theorem flip_lt {x : Nat} (hx : x < 18446744073709551616) : flipOf x < 18446744073709551616 := by unfold flipOf; split <;> omega
theorem flip_flip {x : Nat} (hx : x < 18446744073709551616) : flipOf (flipOf x) = x := by unfold flipOf; split <;> split <;> omega
theorem xor_sign (x : Nat) (hx : x < 18446744073709551616) : bits .xor .u64 (x : Int) 9223372036854775808 = (flipOf x : Int) := by
  have h := u64_xor_nat x 9223372036854775808 hx (by omega)
  have e : x ^^^ 9223372036854775808 = flipOf x := by
    apply Nat.eq_of_testBit_eq
    intro i
    have h63 : (9223372036854775808 : Nat) = 2 ^ 63 := by decide
    unfold flipOf
    rw [Nat.testBit_xor]
    by_cases hs : 9223372036854775808 ≤ x
    · rw [if_pos hs]
      obtain ⟨m, hm⟩ : ∃ m, x = 2 ^ 63 + m := ⟨x - 2 ^ 63, by omega⟩
      have hml : m < 2 ^ 63 := by omega
      have e1 : x - 9223372036854775808 = m := by omega
      rw [e1, hm, h63, Nat.testBit_two_pow]
      by_cases hi : i = 63
      · subst hi
        rw [Nat.testBit_two_pow_add_eq, Nat.testBit_lt_two_pow hml]; rfl
      · have e2 : (2 ^ 63 + m).testBit i = m.testBit i := by
          rcases Nat.lt_or_gt_of_ne hi with hi | hi
          · rw [Nat.testBit_two_pow_add_gt hi]
          · rw [Nat.testBit_lt_two_pow (x := 2 ^ 63 + m) (i := i) (Nat.lt_of_lt_of_le (by omega : 2 ^ 63 + m < 2 ^ 64) (Nat.pow_le_pow_right (by omega) (by omega))),
              Nat.testBit_lt_two_pow (x := m) (i := i) (Nat.lt_of_lt_of_le hml (Nat.pow_le_pow_right (by omega) (by omega)))]
        rw [e2]
        have : decide (63 = i) = false := by simpa using (fun h => hi h.symm)
        rw [this]; simp
    · rw [if_neg hs]
      have hml : x < 2 ^ 63 := by omega
      have e1 : x + 9223372036854775808 = 2 ^ 63 + x := by omega
      rw [e1, h63, Nat.testBit_two_pow]
      by_cases hi : i = 63
      · subst hi
        rw [Nat.testBit_two_pow_add_eq, Nat.testBit_lt_two_pow hml]; rfl
      · have e2 : (2 ^ 63 + x).testBit i = x.testBit i := by
          rcases Nat.lt_or_gt_of_ne hi with hi | hi
          · rw [Nat.testBit_two_pow_add_gt hi]
          · rw [Nat.testBit_lt_two_pow (x := 2 ^ 63 + x) (i := i) (Nat.lt_of_lt_of_le (by omega : 2 ^ 63 + x < 2 ^ 64) (Nat.pow_le_pow_right (by omega) (by omega))),
              Nat.testBit_lt_two_pow (x := x) (i := i) (Nat.lt_of_lt_of_le hml (Nat.pow_le_pow_right (by omega) (by omega)))]
        rw [e2]
        have : decide (63 = i) = false := by simpa using (fun h => hi h.symm)
        rw [this]; simp
  rw [e] at h
  exact h
theorem key_next (x : Nat) (hx : x < 18446744073709551616) (hn : x % 9223372036854775808 ≤ 9218868437227405312) (h1 : x ≠ 9218868437227405312) (h2 : x ≠ 9223372036854775808) : keyOf (nextOf x) = keyOf x + 1 := by
  have hc : canonOf x = x := by unfold canonOf; rw [if_neg (by omega)]
  unfold nextOf
  rw [hc, if_neg (by omega), if_neg h2]
  by_cases hs : 9223372036854775808 ≤ x
  · rw [if_pos hs, key_num _ (by omega), key_num _ hn, if_pos hs, if_pos (by omega)]
    omega
  · rw [if_neg hs, key_num _ (by omega), key_num _ hn, if_neg hs, if_neg (by omega)]
    omega
theorem next_num (x : Nat) (hx : x < 18446744073709551616) (hn : x % 9223372036854775808 ≤ 9218868437227405312) : nextOf x % 9223372036854775808 ≤ 9218868437227405312 := by
  have hc : canonOf x = x := by unfold canonOf; rw [if_neg (by omega)]
  unfold nextOf
  rw [hc]
  split
  · exact hn
  · split
    · omega
    · split <;> omega
theorem next_eq (x c : Nat) (h : canonOf x = c) : nextOf x = if c = 9221120237041090561 ∨ c = 9218868437227405312 then c else if c = 9223372036854775808 then 1 else if 9223372036854775808 ≤ c then c - 1 else c + 1 := by
  unfold nextOf; rw [h]
theorem next_w1 {x c : Nat} (hc : canonOf x = c) (h : (c : Int) = 9221120237041090561) : (c : Int) = (nextOf x : Int) := by
  rw [next_eq x c hc, if_pos (Or.inl (by omega))]
theorem next_w2 {x c : Nat} (hc : canonOf x = c) (h : ((c : Int) == 9221120237041090561) = true ∨ ((c : Int) == 9218868437227405312) = true) : (c : Int) = (nextOf x : Int) := by
  rw [beq_iff_eq, beq_iff_eq] at h
  rw [next_eq x c hc, if_pos (by omega)]
theorem next_w3 {x c : Nat} (hc : canonOf x = c) (h : ((c : Int) == 9223372036854775808) = true) : (1 : Int) = (nextOf x : Int) := by
  rw [beq_iff_eq] at h
  rw [next_eq x c hc, if_neg (by omega), if_pos (by omega)]; rfl
theorem next_w4 {x c : Nat} (hc : canonOf x = c) (hl : c < 18446744073709551616) (_h : ((c : Int) == 9221120237041090561) = false ∧ ((c : Int) == 9218868437227405312) = false) (h2 : ((c : Int) == 9223372036854775808) = false)
    (h3 : (bits .and .u64 (c : Int) 9223372036854775808 != 0) = true) : IntKind.u64.wrap ((c : Int) - 1) = (nextOf x : Int) := by
  simp only [beq_eq_false_iff_ne, ne_eq] at h2
  have h4 : 9223372036854775808 ≤ c := by
    apply Classical.byContradiction
    intro h4
    rw [and_sign c hl, if_neg h4] at h3
    simp at h3
  rw [next_eq x c hc, if_neg (by omega), if_neg (by omega), if_pos h4, IntKind.wrap_u64]
  omega
theorem next_w5 {x c : Nat} (hc : canonOf x = c) (hl : c < 18446744073709551616) (_hk : c = 9221120237041090561 ∨ c % 9223372036854775808 ≤ 9218868437227405312) (h : ((c : Int) == 9221120237041090561) = false ∧ ((c : Int) == 9218868437227405312) = false) (h2 : ((c : Int) == 9223372036854775808) = false)
    (h3 : (bits .and .u64 (c : Int) 9223372036854775808 != 0) = false) : IntKind.u64.wrap ((c : Int) + 1) = (nextOf x : Int) := by
  simp only [beq_eq_false_iff_ne, ne_eq] at h h2
  have h4 : ¬ 9223372036854775808 ≤ c := by
    intro h4
    rw [and_sign c hl, if_pos h4] at h3
    simp at h3
  rw [next_eq x c hc, if_neg (by omega), if_neg (by omega), if_neg h4, IntKind.wrap_u64]
  omega
end Go.Proofs.YtijadahpddmhjaaGreatDoor

namespace Go.Proofs.YtijadahpddmhjaaGreatDoor
open Go.RowKit Go.IntWalk

def sgnE (z : Int) : Int := if z = 0 then 0 else if z < 0 then -1 else 1
theorem sgnE_neg (z : Int) : sgnE (-z) = -sgnE z := by
  unfold sgnE
  split <;> split <;> (try split) <;> (try split) <;> omega
theorem sgnE_le (z : Int) : -1 ≤ sgnE z ∧ sgnE z ≤ 1 := by
  unfold sgnE
  split
  · omega
  · split <;> omega
theorem flip_md (x : Nat) (hx : x < 18446744073709551616) : flipOf x % 9223372036854775808 = x % 9223372036854775808 ∧ (9223372036854775808 ≤ flipOf x ↔ ¬ 9223372036854775808 ≤ x) := by
  unfold flipOf
  split <;> omega
theorem sv_flip (x : Nat) (hx : x < 18446744073709551616) : sv (flipOf x) = -sv x := by
  obtain ⟨h1, h2⟩ := flip_md x hx
  unfold sv
  rw [h1]
  by_cases c : 9223372036854775808 ≤ x
  · rw [if_pos c, if_neg (fun d => h2.1 d c), Int.neg_neg]
  · rw [if_neg c, if_pos (h2.2 c)]
theorem exp_flip (x : Nat) (hx : x < 18446744073709551616) : (expOf (flipOf x) == 2047) = (expOf x == 2047) := by
  obtain ⟨h1, h2⟩ := flip_md x hx
  have hf := flip_lt hx
  rw [Bool.eq_iff_iff, beq_iff_eq, beq_iff_eq]
  unfold expOf canonOf
  rw [h1]
  by_cases c : 9218868437227405312 < x % 9223372036854775808
  · rw [if_pos c, if_pos c]
  · rw [if_neg c, if_neg c]
    omega
theorem neg_flip (x : Nat) (hx : x < 18446744073709551616) : Op.unary .neg (.float .f64 x) = pure (.float .f64 (flipOf x)) := by
  have h := xor_sign x hx
  have h2 := u64_xor_nat x 9223372036854775808 hx (by omega)
  have e : x ^^^ 9223372036854775808 = flipOf x := by
    have h3 := h2.symm.trans h
    omega
  rw [← e]
  rfl
set_option maxHeartbeats 400000 in
theorem signOf_dy (neg : Bool) (a : Option Addr) (n cap : Nat) (e' z e : Int) (w : World) (h : DyAt w neg a n cap e' z e) :
    Calls Tryz.prog 70 #[.agg #[.bool neg, .slice a n cap, .int .i64 e'], .int .i64 0] w fun r w' => r = .returned (.tuple #[.int .i64 (sgnE z), .int .i64 0]) ∧ Below w.heap.size w w' := by
  obtain ⟨L, rfl, hcap, hm, hv, hmay⟩ := h
  have key : (L.length = 0 ∧ sgnE z = 0) ∨ ((1 : Int) ≤ (L.length : Int) ∧ sgnE z = if neg then -1 else 1) := by
    rcases hv.val with ⟨z0, l0, m0, x0⟩ | ⟨l0, o0, z0, k, hk, hx⟩
    · left; rw [l0, z0]; exact ⟨rfl, rfl⟩
    · right
      refine ⟨?_, ?_⟩
      · have : L.length ≠ 0 := fun c => l0 (List.length_eq_zero_iff.1 c)
        omega
      · have hp : (0 : Int) < 2 ^ k := Int.pow_pos (by decide)
        have hn : (0 : Int) < (natL L : Int) := by omega
        have hq : (0 : Int) < (natL L : Int) * 2 ^ k := Int.mul_pos hn hp
        unfold intL at hk
        unfold sgnE
        rw [if_neg z0]
        cases neg
        · rw [if_neg (by decide)] at hk
          rw [if_neg (show ¬ z < 0 by omega)]; rfl
        · rw [if_pos rfl, Int.neg_mul] at hk
          rw [if_pos (show z < 0 by omega)]; rfl
  obtain ⟨l, hl⟩ : ∃ l, Hid (L.length = l) := ⟨_, rfl⟩
  obtain ⟨s, hs⟩ : ∃ s, Hid (sgnE z = s) := ⟨_, rfl⟩
  rw [hl.out, hs.out] at key
  rw [hl.out, hs.out]
  clear hcap hm hv hmay
  rcases key with ⟨rfl, rfl⟩ | ⟨h1, h2⟩
  · go_enter Tryz.func70, Tryz.ntmps70
    go_wp2
    go_ret2
    exact ⟨rfl, (Below.refl _ _).alloc (Nat.le_refl _) _⟩
  · subst h2
    cases neg
    · go_enter Tryz.func70, Tryz.ntmps70
      go_wp2
      go_ret2
      exact ⟨rfl, (Below.refl _ _).alloc (Nat.le_refl _) _⟩
    · go_enter Tryz.func70, Tryz.ntmps70
      go_wp2
      go_ret2
      exact ⟨rfl, (Below.refl _ _).alloc (Nat.le_refl _) _⟩
set_option maxHeartbeats 400000 in
theorem signOf_err (neg : Bool) (a : Option Addr) (n cap : Nat) (e' : Int) (w : World) :
    Calls Tryz.prog 70 #[.agg #[.bool neg, .slice a n cap, .int .i64 e'], .int .i64 4] w fun r w' => r = .returned (.tuple #[.int .i64 0, .int .i64 4]) ∧ Below w.heap.size w w' := by
  go_enter Tryz.func70, Tryz.ntmps70
  go_wp2
  go_ret2
  exact ⟨rfl, (Below.refl _ _).alloc (Nat.le_refl _) _⟩
end Go.Proofs.YtijadahpddmhjaaGreatDoor
