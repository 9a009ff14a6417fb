
/- What the document's Mul does. -/
import Derived.Test.YtilffgmekeeohaaDoorP27
import Derived.Test.YtilffgmekeeohaaDoorP32
import Derived.Test.YtilffgmekeeohaaDoorP28
import Derived.Test.YtilffgmekeeohaaDoorP29
import Derived.Test.YtilffgmekeeohaaDoorP30
import Derived.Test.YtilffgmekeeohaaDoorP31
import Derived.Deep.QuietTactic
import Derived.BigQuiet
namespace Go.Proofs.YtilffgmekeeohaaDoor
open Go.RowKit Go.IntWalk

end Go.Proofs.YtilffgmekeeohaaDoor

namespace Go.Proofs.YtilffgmekeeohaaDoor
open Go

/-- An odd number with some twos is another with some: what they have in common. -/
theorem odd_shift (i z : Int) (t u : Nat) (hi : i % 2 = 1) (h : i * 2 ^ t = z * 2 ^ u) : ∃ k, t = u + k ∧ z = i * 2 ^ k := by
  have hp : ∀ n : Nat, (2 : Int) ^ n ≠ 0 := fun n => by
    have : (0 : Int) < 2 ^ n := Int.pow_pos (by decide)
    omega
  by_cases c : t < u
  · obtain ⟨d, hd⟩ : ∃ d, u = t + (d + 1) := ⟨u - t - 1, by omega⟩
    rw [hd, Int.pow_add, Int.mul_comm (2 ^ t), ← Int.mul_assoc] at h
    have h2 := Int.eq_of_mul_eq_mul_right (hp t) h
    rw [Int.pow_succ, ← Int.mul_assoc] at h2
    omega
  · obtain ⟨k, hk⟩ : ∃ k, t = u + k := ⟨t - u, by omega⟩
    refine ⟨k, hk, ?_⟩
    rw [hk, Int.pow_add, Int.mul_comm (2 ^ u), ← Int.mul_assoc] at h
    exact (Int.eq_of_mul_eq_mul_right (hp u) h).symm
theorem odd_same (i j : Int) (t u : Nat) (hi : i % 2 = 1) (hj : j % 2 = 1) (h : i * 2 ^ t = j * 2 ^ u) : t = u ∧ i = j := by
  obtain ⟨k, h1, h2⟩ := odd_shift i j t u hi h
  obtain ⟨l, h3, h4⟩ := odd_shift j i u t hj h.symm
  have hk : k = 0 := by omega
  rw [hk] at h1 h2
  exact ⟨h1, by rw [h2, Int.pow_zero, Int.mul_one]⟩
theorem DigL.drop {L : List Nat} (h : DigL L) (k : Nat) : DigL (L.drop k) := fun d hd => h d (List.mem_of_mem_drop hd)
/-- A list of words without noughts at its end is told by its value. -/
theorem natL_inj : ∀ (A B : List Nat), DigL A → DigL B → A.length = B.length → natL A = natL B → A = B
  | [], [], _, _, _, _ => rfl
  | [], _ :: _, _, _, h, _ => by simp at h
  | _ :: _, [], _, _, h, _ => by simp at h
  | a :: A, b :: B, hA, hB, hl, h => by
    have h1 := hA a (List.mem_cons_self ..)
    have h2 := hB b (List.mem_cons_self ..)
    have e : a + 4294967296 * natL A = b + 4294967296 * natL B := h
    have hab : a = b := by omega
    have hr : natL A = natL B := by omega
    rw [hab, natL_inj A B (fun d hd => hA d (List.mem_cons_of_mem _ hd)) (fun d hd => hB d (List.mem_cons_of_mem _ hd)) (by simpa using hl) hr]
theorem natL_uniq (A B : List Nat) (hA : DigL A) (hB : DigL B) (cA : CanL A) (cB : CanL B) (h : natL A = natL B) : A = B := by
  apply natL_inj A B hA hB _ h
  rcases Nat.lt_trichotomy A.length B.length with c | c | c
  · have := natL_shorter A B hA cB c; omega
  · exact c
  · have := natL_shorter B A hB cA c; omega
theorem natL_mod (L : List Nat) : natL L % 2 = L.getD 0 0 % 2 := by
  cases L with
  | nil => rfl
  | cons d t => show (d + 4294967296 * natL t) % 2 = d % 2; omega
theorem intL_odd (neg : Bool) (L : List Nat) (h : natL L % 2 = 1) : intL neg L % 2 = 1 := by
  unfold intL
  cases neg
  · rw [if_neg (by decide)]; omega
  · rw [if_pos rfl]; omega
/-- What a dyad stands for: its sign, its words, its exponent; z * 2^e. -/
def DyV (neg : Bool) (L : List Nat) (e' : Int) (z e : Int) : Prop :=
  DigL L ∧ CanL L ∧ ((z = 0 ∧ L = [] ∧ neg = false ∧ e' = 0) ∨ (natL L % 2 = 1 ∧ ∃ k : Nat, intL neg L * 2 ^ k = z ∧ e' = e + k))
theorem DyV.uniq {n1 n2 : Bool} {L1 L2 : List Nat} {e1 e2 z e : Int} (h1 : DyV n1 L1 e1 z e) (h2 : DyV n2 L2 e2 z e) : n1 = n2 ∧ L1 = L2 ∧ e1 = e2 := by
  obtain ⟨d1, c1, v1⟩ := h1
  obtain ⟨d2, c2, v2⟩ := h2
  have nz : ∀ (n : Bool) (L : List Nat) (k : Nat), natL L % 2 = 1 → intL n L * 2 ^ k ≠ 0 := fun n L k h => by
    have := intL_odd n L h
    have hp : (0 : Int) < 2 ^ k := Int.pow_pos (by decide)
    exact Int.mul_ne_zero (by omega) (by omega)
  rcases v1 with ⟨z1, l1, m1, x1⟩ | ⟨o1, k1, w1, x1⟩
  · rcases v2 with ⟨z2, l2, m2, x2⟩ | ⟨o2, k2, w2, x2⟩
    · exact ⟨by rw [m1, m2], by rw [l1, l2], by rw [x1, x2]⟩
    · exact absurd (w2.trans z1) (nz _ _ _ o2)
  · rcases v2 with ⟨z2, l2, m2, x2⟩ | ⟨o2, k2, w2, x2⟩
    · exact absurd (w1.trans z2) (nz _ _ _ o1)
    · obtain ⟨ek, ei⟩ := odd_same _ _ k1 k2 (intL_odd n1 L1 o1) (intL_odd n2 L2 o2) (by rw [w1, w2])
      have en : natL L1 = natL L2 ∧ n1 = n2 := by
        unfold intL at ei
        cases n1 <;> cases n2 <;> simp at ei ⊢ <;> omega
      exact ⟨en.2, natL_uniq _ _ d1 d2 c1 c2 en.1, by rw [x1, x2, ek]⟩
/-- A lesser exponent tells the same number by more steps. -/
theorem DyV.low {n : Bool} {L : List Nat} {e' z e : Int} (h : DyV n L e' z e) (k : Nat) : DyV n L e' (z * 2 ^ k) (e - k) := by
  obtain ⟨d, c, v⟩ := h
  refine ⟨d, c, ?_⟩
  rcases v with ⟨z1, l1, m1, x1⟩ | ⟨o1, k1, w1, x1⟩
  · exact Or.inl ⟨by rw [z1, Int.zero_mul], l1, m1, x1⟩
  · exact Or.inr ⟨o1, k1 + k, by rw [Int.pow_add, ← Int.mul_assoc, w1], by omega⟩
/-- And a greater one, where the number is so many steps of it. -/
theorem DyV.high {n : Bool} {L : List Nat} {e' z e : Int} {k : Nat} (h : DyV n L e' (z * 2 ^ k) e) : DyV n L e' z (e + k) := by
  obtain ⟨d, c, v⟩ := h
  refine ⟨d, c, ?_⟩
  have hp : (0 : Int) < 2 ^ k := Int.pow_pos (by decide)
  rcases v with ⟨z1, l1, m1, x1⟩ | ⟨o1, k1, w1, x1⟩
  · refine Or.inl ⟨?_, l1, m1, x1⟩
    rcases Int.mul_eq_zero.1 z1 with c | c
    · exact c
    · omega
  · obtain ⟨j, j1, j2⟩ := odd_shift _ _ _ _ (intL_odd n L o1) w1
    exact Or.inr ⟨o1, j, j2.symm, by omega⟩
/-- The number at its own exponent. -/
theorem DyV.own {n : Bool} {L : List Nat} {e' z e : Int} (h : DyV n L e' z e) : DyV n L e' (intL n L) e' := by
  obtain ⟨d, c, v⟩ := h
  refine ⟨d, c, ?_⟩
  rcases v with ⟨z1, l1, m1, x1⟩ | ⟨o1, k1, w1, x1⟩
  · exact Or.inl ⟨by rw [l1, m1]; rfl, l1, m1, x1⟩
  · exact Or.inr ⟨o1, 0, by rw [Int.pow_zero, Int.mul_one], by omega⟩
/-- Of one that isn't 0: its exponent is no lesser, and the steps between. -/
theorem DyV.val {n : Bool} {L : List Nat} {e' z e : Int} (h : DyV n L e' z e) : (z = 0 ∧ L = [] ∧ n = false ∧ e' = 0) ∨ (L ≠ [] ∧ natL L % 2 = 1 ∧ z ≠ 0 ∧ ∃ k : Nat, intL n L * 2 ^ k = z ∧ e' = e + k) := by
  obtain ⟨d, c, v⟩ := h
  rcases v with v | ⟨o1, k1, w1, x1⟩
  · exact Or.inl v
  · refine Or.inr ⟨fun hl => absurd (hl ▸ o1 : natL [] % 2 = 1) (by decide), o1, fun hz => ?_, k1, w1, x1⟩
    have := intL_odd n L o1
    have hp : (0 : Int) < 2 ^ k1 := Int.pow_pos (by decide)
    exact Int.mul_ne_zero (show intL n L ≠ 0 by omega) (by omega) (w1.trans hz)
end Go.Proofs.YtilffgmekeeohaaDoor

namespace Go.Proofs.YtilffgmekeeohaaDoor
open Go.RowKit Go.IntWalk

theorem ret_uu {a b a' b' : Int} (h1 : a = a') (h2 : b = b') : Ending.returned (.tuple #[.int .u32 a, .int .u32 b]) = .returned (.tuple #[.int .u32 a', .int .u32 b']) := by rw [h1, h2]
theorem top32 (n : Nat) (h : n < 4294967296) : n / 2147483648 = (n.testBit 31).toNat ∧ n.testBit 31 = decide (2147483648 ≤ n) := by
  have e : n.testBit 31 = decide (n / 2147483648 % 2 = 1) := by
    rw [Nat.testBit_eq_decide_div_mod_eq]
  have e2 : decide (n / 2147483648 % 2 = 1) = decide (2147483648 ≤ n) := decide_eq_decide.2 (by omega)
  rw [e, e2]
  refine ⟨?_, rfl⟩
  by_cases c : 2147483648 ≤ n
  · rw [decide_eq_true c]; show _ = 1; omega
  · rw [decide_eq_false c]; show _ = 0; omega
/-- The borrow of a difference of words. -/
def bor (x y b : Nat) : Nat := if x < y + b then 1 else 0
def dif (x y b : Nat) : Nat := (x + 8589934592 - y - b) % 4294967296
theorem sub32_bits (x y b : Nat) (hx : x < 4294967296) (hy : y < 4294967296) (hb : b ≤ 1) :
    (((4294967295 - x) &&& y) ||| ((4294967295 - (x ^^^ y)) &&& dif x y b)) / 2147483648 = bor x y b := by
  have hd : dif x y b < 4294967296 := Nat.mod_lt _ (by decide)
  have hxy : x ^^^ y < 4294967296 := Nat.xor_lt_two_pow (n := 32) hx hy
  have h1 : ((4294967295 - x) &&& y) < 2 ^ 32 := Nat.and_lt_two_pow _ hy
  have h2 : ((4294967295 - (x ^^^ y)) &&& dif x y b) < 2 ^ 32 := Nat.and_lt_two_pow _ hd
  have h3 : (((4294967295 - x) &&& y) ||| ((4294967295 - (x ^^^ y)) &&& dif x y b)) < 4294967296 := Nat.or_lt_two_pow (n := 32) h1 h2
  have nx : (4294967295 - x).testBit 31 = !x.testBit 31 := by
    have := Nat.testBit_two_pow_sub_succ (n := 32) hx 31
    simpa using this
  have nxy : (4294967295 - (x ^^^ y)).testBit 31 = !(x ^^^ y).testBit 31 := by
    have := Nat.testBit_two_pow_sub_succ (n := 32) hxy 31
    simpa using this
  rw [(top32 _ h3).1, Nat.testBit_or, Nat.testBit_and, Nat.testBit_and, nx, nxy, Nat.testBit_xor, (top32 x hx).2, (top32 y hy).2, (top32 _ hd).2]
  unfold bor dif
  by_cases cx : 2147483648 ≤ x
  · by_cases cy : 2147483648 ≤ y
    · rw [decide_eq_true cx, decide_eq_true cy]
      by_cases c : x < y + b
      · rw [if_pos c, decide_eq_true (by omega)]; rfl
      · rw [if_neg c, decide_eq_false (by omega)]; rfl
    · rw [decide_eq_true cx, decide_eq_false cy, if_neg (by omega)]; simp
  · by_cases cy : 2147483648 ≤ y
    · rw [decide_eq_false cx, decide_eq_true cy, if_pos (by omega)]; simp
    · rw [decide_eq_false cx, decide_eq_false cy]
      by_cases c : x < y + b
      · rw [if_pos c, decide_eq_true (by omega)]; rfl
      · rw [if_neg c, decide_eq_false (by omega)]; rfl
theorem bnot32 (x : Nat) (h : x < 4294967296) : bits .xor .u32 IntKind.u32.max (x : Int) = ((4294967295 - x : Nat) : Int) := by
  have hm : IntKind.u32.max = ((4294967295 : Nat) : Int) := rfl
  rw [hm, u32_xor_nat 4294967295 x (by decide) h]
  congr 1
  apply Nat.eq_of_testBit_eq
  intro i
  have h1 := Nat.testBit_two_pow_sub_succ (n := 32) h i
  have h2 : (4294967295 : Nat).testBit i = decide (i < 32) := Nat.testBit_two_pow_sub_one 32 i
  have h3 : 2 ^ 32 - (x + 1) = 4294967295 - x := by simp only [Nat.reducePow]; omega
  rw [h3] at h1
  rw [h1, Nat.testBit_xor, h2]
  by_cases c : i < 32
  · rw [decide_eq_true c]; simp
  · rw [decide_eq_false c]
    have : x.testBit i = false := Nat.testBit_lt_two_pow (Nat.lt_of_lt_of_le h (by have : (2 : Nat) ^ 32 ≤ 2 ^ i := Nat.pow_le_pow_right (by decide) (by omega); simpa using this))
    rw [this]; rfl
theorem bor_w (x y b : Nat) (hx : x < 4294967296) (hy : y < 4294967296) (hb : b ≤ 1) : bits .or .u32 (bits .and .u32 (bits .xor .u32 IntKind.u32.max (x : Int)) (y : Int)) (bits .and .u32 (bits .xor .u32 IntKind.u32.max (bits .xor .u32 (x : Int) (y : Int))) (((x : Int) - y - b) % 4294967296)) / 2147483648 = (bor x y b : Int) := by
  have hd : dif x y b < 4294967296 := Nat.mod_lt _ (by decide)
  have hxy : x ^^^ y < 4294967296 := Nat.xor_lt_two_pow (n := 32) hx hy
  have h1 : ((4294967295 - x) &&& y) < 4294967296 := Nat.and_lt_two_pow (n := 32) _ hy
  have h2 : ((4294967295 - (x ^^^ y)) &&& dif x y b) < 4294967296 := Nat.and_lt_two_pow (n := 32) _ hd
  have e : ((x : Int) - y - b) % 4294967296 = (dif x y b : Int) := by unfold dif; omega
  rw [e, bnot32 x hx, u32_xor_nat x y hx hy, bnot32 _ hxy, u32_and_nat _ y (by omega) hy, u32_and_nat _ _ (by omega) hd, u32_or_nat _ _ h1 h2, ← sub32_bits x y b hx hy hb]
  omega
end Go.Proofs.YtilffgmekeeohaaDoor

namespace Go.Proofs.YtilffgmekeeohaaDoor
open Go.RowKit Go.IntWalk

/-- A row of words of one's own, at least so long. -/
def OwnRow (w : World) (p : Addr) (l : Nat) : Prop := ∃ (b M : Nat) (f : Nat → Int), p = ⟨b, 0, none⟩ ∧ l ≤ M ∧ w.rowIs b 93 M (fun j => .int .u32 (f j))
theorem OwnRow.of_block {w w' : World} {p : Addr} {l : Nat} (h : OwnRow w p l) (e : w'.heap[p.block]? = w.heap[p.block]?) : OwnRow w' p l := by
  obtain ⟨b, M, f, rfl, h1, h2⟩ := h
  exact ⟨b, M, f, rfl, h1, h2.of_block e⟩
theorem OwnRow.lt {w : World} {p : Addr} {l : Nat} (h : OwnRow w p l) : p.block < w.heap.size := by
  obtain ⟨b, M, f, rfl, h1, h2⟩ := h
  exact h2.lt
/-- Words in new memory. -/
def MagNew (v bound B : Nat) (r : Ending) (w' : World) : Prop := ∃ (L' : List Nat) (a' : Option Addr) (cap' : Nat), r = .returned (.slice a' L'.length cap') ∧ (L'.length ≤ cap' ∧ L'.length ≤ bound ∧ MagAt w' a' L' ∧ DigL L' ∧ CanL L' ∧ natL L' = v) ∧ (∀ p, a' = some p → B ≤ p.block ∧ OwnRow w' p L'.length)
theorem PInv.last {A B : List Nat} {o : Nat → Nat} {c M : Nat} (h : PInv A B o c M) (hA : DigL A) (hB : DigL B) (lA : A.length + 1 ≤ M) (lB : B.length + 1 ≤ M) : natF o M = natL A + natL B := by
  obtain ⟨h1, h2, h3⟩ := h
  rw [List.take_of_length_le (by omega), List.take_of_length_le (by omega)] at h1
  obtain ⟨K, hK⟩ : ∃ K, M = K + 1 := ⟨M - 1, by omega⟩
  have a1 : natL A < 4294967296 ^ K := Nat.lt_of_lt_of_le (natL_lt A hA) (Nat.pow_le_pow_right (by decide) (by omega))
  have b1 : natL B < 4294967296 ^ K := Nat.lt_of_lt_of_le (natL_lt B hB) (Nat.pow_le_pow_right (by decide) (by omega))
  have hc : c = 0 := by
    apply Classical.byContradiction
    intro hc
    have c1 : c = 1 := by omega
    rw [c1, Nat.mul_one, hK, Nat.pow_succ] at h1
    omega
  rw [hc, Nat.mul_zero, Nat.add_zero] at h1
  exact h1
theorem dif_eq (x y c : Nat) (hx : x < 4294967296) (hy : y < 4294967296) (hc : c ≤ 1) : c + y + dif x y c = x + 4294967296 * bor x y c ∧ dif x y c < 4294967296 ∧ bor x y c ≤ 1 := by
  unfold dif bor
  split <;> omega
end Go.Proofs.YtilffgmekeeohaaDoor

namespace Go.Proofs.YtilffgmekeeohaaDoor
open Go.RowKit Go.IntWalk

theorem or_words2 (d e : Nat) (hd : d < 4294967296) (he : e < 4294967296) : bits .or .u64 ((e : Int) * 4294967296) (d : Int) = ((d + 4294967296 * e : Nat) : Int) := by
  have e1 : (e : Int) * 4294967296 = ((e * 4294967296 : Nat) : Int) := by omega
  rw [e1, u64_or_nat (e * 4294967296) d (by omega) (by omega)]
  congr 1
  have := Nat.two_pow_add_eq_or_of_lt (i := 32) (b := d) (by simpa using hd) e
  rw [show e * 4294967296 = 2 ^ 32 * e by omega, ← this]
  simp only [Nat.reducePow]
  omega
end Go.Proofs.YtilffgmekeeohaaDoor
