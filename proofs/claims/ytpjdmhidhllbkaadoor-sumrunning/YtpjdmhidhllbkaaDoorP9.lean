
/- What the document's Rsh (of a number that isn't below 0), compare and Cmp do. -/
import Derived.Test.YtpjdmhidhllbkaaDoorP6
import Derived.Deep.QuietTactic
import Derived.Deep.RegionHeld3
namespace Go.Proofs.YtpjdmhidhllbkaaDoor
open Go.RowKit Go.IntWalk

/-- How two magnitudes of one length compare, from a place on downwards. -/
def cmpI (a b : Nat) : Int := if a < b then -1 else if b < a then 1 else 0
theorem natL_cmp (A B : List Nat) (hA : DigL A) (k : Nat) (hk : k < A.length) (hk2 : k < B.length) (hhi : A.drop (k + 1) = B.drop (k + 1)) (hl : A.length = B.length) (hlt : A.getD k 0 < B.getD k 0) : natL A < natL B := by
  have e1 := natL_append (A.take (k + 1)) (A.drop (k + 1))
  have e2 := natL_append (B.take (k + 1)) (B.drop (k + 1))
  rw [List.take_append_drop, List.length_take, Nat.min_eq_left (by omega)] at e1 e2
  rw [natL_take_succ A k hk] at e1
  rw [natL_take_succ B k hk2] at e2
  rw [hhi] at e1
  have h1 := natL_lt (A.take k) (hA.take k)
  rw [List.length_take, Nat.min_eq_left (by omega)] at h1
  have h2 : 4294967296 ^ k * (A.getD k 0 + 1) ≤ 4294967296 ^ k * B.getD k 0 := Nat.mul_le_mul_left _ hlt
  rw [Nat.mul_add, Nat.mul_one] at h2
  omega
theorem natL_shorter (A B : List Nat) (hA : DigL A) (hB : CanL B) (hl : A.length < B.length) : natL A < natL B := by
  have h1 := natL_lt A hA
  have h2 := natL_ge B (fun c => by rw [c] at hl; exact absurd hl (Nat.not_lt_zero _)) hB
  have h3 : 4294967296 ^ A.length ≤ 4294967296 ^ (B.length - 1) := Nat.pow_le_pow_right (by decide) (by omega)
  omega
theorem cmpI_lt {a b : Nat} (h : a < b) : cmpI a b = -1 := if_pos h
theorem cmpI_gt {a b : Nat} (h : b < a) : cmpI a b = 1 := by unfold cmpI; rw [if_neg (by omega), if_pos h]
theorem cmpI_eq {a b : Nat} (h : a = b) : cmpI a b = 0 := by unfold cmpI; rw [if_neg (by omega), if_neg (by omega)]
theorem drop_step (A B : List Nat) (k : Nat) (hA : k < A.length) (hB : k < B.length) (h : A.drop (k + 1) = B.drop (k + 1)) (e : A.getD k 0 = B.getD k 0) : A.drop k = B.drop k := by
  rw [List.drop_eq_getElem_cons hA, List.drop_eq_getElem_cons hB, h]
  congr 1
  simpa [List.getD, hA, hB] using e
/-- The whole number that lies there. -/
def intL (neg : Bool) (L : List Nat) : Int := if neg = true then -(natL L : Int) else natL L
def cmpZ (a b : Int) : Int := if a < b then -1 else if b < a then 1 else 0
theorem cmpZ_pos (a b : Nat) : cmpZ (a : Int) (b : Int) = cmpI a b := by
  unfold cmpZ cmpI
  split <;> split <;> (try split) <;> (try split) <;> omega
theorem cmpZ_neg (a b : Nat) : cmpZ (-(a : Int)) (-(b : Int)) = -cmpI a b := by
  unfold cmpZ cmpI
  split <;> split <;> (try split) <;> (try split) <;> omega
theorem neg_pos {neg : Bool} {L : List Nat} (hc : CanL L) (h : L = [] → neg = false) (hn : neg = true) : 0 < natL L := by
  have h1 : natL L ≠ 0 := fun c => by
    have := h ((natL_zero L hc).1 c)
    rw [hn] at this
    exact Bool.noConfusion this
  omega
end Go.Proofs.YtpjdmhidhllbkaaDoor

namespace Go.Proofs.YtpjdmhidhllbkaaDoor
open Go

/-- An odd number with some twos is another with some: what they have in common. -/
theorem odd_shift (i z : Int) (t u : Nat) (hi : i % 2 = 1) (h : i * 2 ^ t = z * 2 ^ u) : ∃ k, t = u + k ∧ z = i * 2 ^ k := by
  have hp : ∀ n : Nat, (2 : Int) ^ n ≠ 0 := fun n => by
    have : (0 : Int) < 2 ^ n := Int.pow_pos (by decide)
    omega
  by_cases c : t < u
  · obtain ⟨d, hd⟩ : ∃ d, u = t + (d + 1) := ⟨u - t - 1, by omega⟩
    rw [hd, Int.pow_add, Int.mul_comm (2 ^ t), ← Int.mul_assoc] at h
    have h2 := Int.eq_of_mul_eq_mul_right (hp t) h
    rw [Int.pow_succ, ← Int.mul_assoc] at h2
    omega
  · obtain ⟨k, hk⟩ : ∃ k, t = u + k := ⟨t - u, by omega⟩
    refine ⟨k, hk, ?_⟩
    rw [hk, Int.pow_add, Int.mul_comm (2 ^ u), ← Int.mul_assoc] at h
    exact (Int.eq_of_mul_eq_mul_right (hp u) h).symm
theorem odd_same (i j : Int) (t u : Nat) (hi : i % 2 = 1) (hj : j % 2 = 1) (h : i * 2 ^ t = j * 2 ^ u) : t = u ∧ i = j := by
  obtain ⟨k, h1, h2⟩ := odd_shift i j t u hi h
  obtain ⟨l, h3, h4⟩ := odd_shift j i u t hj h.symm
  have hk : k = 0 := by omega
  rw [hk] at h1 h2
  exact ⟨h1, by rw [h2, Int.pow_zero, Int.mul_one]⟩
theorem DigL.drop {L : List Nat} (h : DigL L) (k : Nat) : DigL (L.drop k) := fun d hd => h d (List.mem_of_mem_drop hd)
/-- A list of words without noughts at its end is told by its value. -/
theorem natL_inj : ∀ (A B : List Nat), DigL A → DigL B → A.length = B.length → natL A = natL B → A = B
  | [], [], _, _, _, _ => rfl
  | [], _ :: _, _, _, h, _ => by simp at h
  | _ :: _, [], _, _, h, _ => by simp at h
  | a :: A, b :: B, hA, hB, hl, h => by
    have h1 := hA a (List.mem_cons_self ..)
    have h2 := hB b (List.mem_cons_self ..)
    have e : a + 4294967296 * natL A = b + 4294967296 * natL B := h
    have hab : a = b := by omega
    have hr : natL A = natL B := by omega
    rw [hab, natL_inj A B (fun d hd => hA d (List.mem_cons_of_mem _ hd)) (fun d hd => hB d (List.mem_cons_of_mem _ hd)) (by simpa using hl) hr]
theorem natL_uniq (A B : List Nat) (hA : DigL A) (hB : DigL B) (cA : CanL A) (cB : CanL B) (h : natL A = natL B) : A = B := by
  apply natL_inj A B hA hB _ h
  rcases Nat.lt_trichotomy A.length B.length with c | c | c
  · have := natL_shorter A B hA cB c; omega
  · exact c
  · have := natL_shorter B A hB cA c; omega
theorem natL_mod (L : List Nat) : natL L % 2 = L.getD 0 0 % 2 := by
  cases L with
  | nil => rfl
  | cons d t => show (d + 4294967296 * natL t) % 2 = d % 2; omega
theorem intL_odd (neg : Bool) (L : List Nat) (h : natL L % 2 = 1) : intL neg L % 2 = 1 := by
  unfold intL
  cases neg
  · rw [if_neg (by decide)]; omega
  · rw [if_pos rfl]; omega
/-- What a dyad stands for: its sign, its words, its exponent; z * 2^e. -/
def DyV (neg : Bool) (L : List Nat) (e' : Int) (z e : Int) : Prop :=
  DigL L ∧ CanL L ∧ ((z = 0 ∧ L = [] ∧ neg = false ∧ e' = 0) ∨ (natL L % 2 = 1 ∧ ∃ k : Nat, intL neg L * 2 ^ k = z ∧ e' = e + k))
theorem DyV.uniq {n1 n2 : Bool} {L1 L2 : List Nat} {e1 e2 z e : Int} (h1 : DyV n1 L1 e1 z e) (h2 : DyV n2 L2 e2 z e) : n1 = n2 ∧ L1 = L2 ∧ e1 = e2 := by
  obtain ⟨d1, c1, v1⟩ := h1
  obtain ⟨d2, c2, v2⟩ := h2
  have nz : ∀ (n : Bool) (L : List Nat) (k : Nat), natL L % 2 = 1 → intL n L * 2 ^ k ≠ 0 := fun n L k h => by
    have := intL_odd n L h
    have hp : (0 : Int) < 2 ^ k := Int.pow_pos (by decide)
    exact Int.mul_ne_zero (by omega) (by omega)
  rcases v1 with ⟨z1, l1, m1, x1⟩ | ⟨o1, k1, w1, x1⟩
  · rcases v2 with ⟨z2, l2, m2, x2⟩ | ⟨o2, k2, w2, x2⟩
    · exact ⟨by rw [m1, m2], by rw [l1, l2], by rw [x1, x2]⟩
    · exact absurd (w2.trans z1) (nz _ _ _ o2)
  · rcases v2 with ⟨z2, l2, m2, x2⟩ | ⟨o2, k2, w2, x2⟩
    · exact absurd (w1.trans z2) (nz _ _ _ o1)
    · obtain ⟨ek, ei⟩ := odd_same _ _ k1 k2 (intL_odd n1 L1 o1) (intL_odd n2 L2 o2) (by rw [w1, w2])
      have en : natL L1 = natL L2 ∧ n1 = n2 := by
        unfold intL at ei
        cases n1 <;> cases n2 <;> simp at ei ⊢ <;> omega
      exact ⟨en.2, natL_uniq _ _ d1 d2 c1 c2 en.1, by rw [x1, x2, ek]⟩
/-- A lesser exponent tells the same number by more steps. -/
theorem DyV.low {n : Bool} {L : List Nat} {e' z e : Int} (h : DyV n L e' z e) (k : Nat) : DyV n L e' (z * 2 ^ k) (e - k) := by
  obtain ⟨d, c, v⟩ := h
  refine ⟨d, c, ?_⟩
  rcases v with ⟨z1, l1, m1, x1⟩ | ⟨o1, k1, w1, x1⟩
  · exact Or.inl ⟨by rw [z1, Int.zero_mul], l1, m1, x1⟩
  · exact Or.inr ⟨o1, k1 + k, by rw [Int.pow_add, ← Int.mul_assoc, w1], by omega⟩
/-- And a greater one, where the number is so many steps of it. -/
theorem DyV.high {n : Bool} {L : List Nat} {e' z e : Int} {k : Nat} (h : DyV n L e' (z * 2 ^ k) e) : DyV n L e' z (e + k) := by
  obtain ⟨d, c, v⟩ := h
  refine ⟨d, c, ?_⟩
  have hp : (0 : Int) < 2 ^ k := Int.pow_pos (by decide)
  rcases v with ⟨z1, l1, m1, x1⟩ | ⟨o1, k1, w1, x1⟩
  · refine Or.inl ⟨?_, l1, m1, x1⟩
    rcases Int.mul_eq_zero.1 z1 with c | c
    · exact c
    · omega
  · obtain ⟨j, j1, j2⟩ := odd_shift _ _ _ _ (intL_odd n L o1) w1
    exact Or.inr ⟨o1, j, j2.symm, by omega⟩
/-- The number at its own exponent. -/
theorem DyV.own {n : Bool} {L : List Nat} {e' z e : Int} (h : DyV n L e' z e) : DyV n L e' (intL n L) e' := by
  obtain ⟨d, c, v⟩ := h
  refine ⟨d, c, ?_⟩
  rcases v with ⟨z1, l1, m1, x1⟩ | ⟨o1, k1, w1, x1⟩
  · exact Or.inl ⟨by rw [l1, m1]; rfl, l1, m1, x1⟩
  · exact Or.inr ⟨o1, 0, by rw [Int.pow_zero, Int.mul_one], by omega⟩
/-- Of one that isn't 0: its exponent is no lesser, and the steps between. -/
theorem DyV.val {n : Bool} {L : List Nat} {e' z e : Int} (h : DyV n L e' z e) : (z = 0 ∧ L = [] ∧ n = false ∧ e' = 0) ∨ (L ≠ [] ∧ natL L % 2 = 1 ∧ z ≠ 0 ∧ ∃ k : Nat, intL n L * 2 ^ k = z ∧ e' = e + k) := by
  obtain ⟨d, c, v⟩ := h
  rcases v with v | ⟨o1, k1, w1, x1⟩
  · exact Or.inl v
  · refine Or.inr ⟨fun hl => absurd (hl ▸ o1 : natL [] % 2 = 1) (by decide), o1, fun hz => ?_, k1, w1, x1⟩
    have := intL_odd n L o1
    have hp : (0 : Int) < 2 ^ k1 := Int.pow_pos (by decide)
    exact Int.mul_ne_zero (show intL n L ≠ 0 by omega) (by omega) (w1.trans hz)
end Go.Proofs.YtpjdmhidhllbkaaDoor

namespace Go.Proofs.YtpjdmhidhllbkaaDoor
open Go.RowKit Go.IntWalk

theorem _root_.Go.World.rowIs.drewN_set {w : World} {b n : Nat} {t : TypeId} {f : Nat → Value} (h : w.rowIs b t n f) (i v : Nat) (k : Nat) : ((w.drewN k).setCell ⟨b, i, none⟩ (.int .u32 v)).rowIs b t n (fun j => if j = i then (.int .u32 v) else f j) :=
  World.rowIs.set (w := w.drewN k) (h.of_block rfl) i _
end Go.Proofs.YtpjdmhidhllbkaaDoor
