
/- The document's whole numbers, told by their values alone. -/
import Derived.Test.YtfdphegiafccpaaP33
namespace Go.Proofs.Ytfdphegiafccpaa
open Go.RowKit Go.IntWalk

/-- At a block lies a whole number of so many words at most. -/
def NumAt (w : World) (p : Nat) (v : Int) (bd : Nat) : Prop := ∃ neg L, intL neg L = v ∧ L.length ≤ bd ∧ BigAt w p neg L
theorem NumAt.lt {w : World} {p : Nat} {v : Int} {bd : Nat} (h : NumAt w p v bd) : p < w.heap.size := by
  obtain ⟨neg, L, _, _, a, cap, ho, _⟩ := h
  exact (int_cells ho).2.2.2
theorem NumAt.more {w : World} {p : Nat} {v : Int} {bd b2 : Nat} (h : NumAt w p v bd) (hb : bd ≤ b2) : NumAt w p v b2 := by
  obtain ⟨neg, L, h1, h2, h3⟩ := h
  exact ⟨neg, L, h1, by omega, h3⟩
theorem BigAt.below {w w' : World} {x : Nat} {neg : Bool} {L : List Nat} (h : BigAt w x neg L) (hb : Below w.heap.size w w') : BigAt w' x neg L := by
  obtain ⟨a, cap, ho, hcap, hm, hd, hc, hn⟩ := h
  exact ⟨a, cap, by rw [hb.block x (int_cells ho).2.2.2]; exact ho, hcap, hm.below hb, hd, hc, hn⟩
theorem NumAt.below {w w' : World} {p : Nat} {v : Int} {bd : Nat} (h : NumAt w p v bd) (hb : Below w.heap.size w w') : NumAt w' p v bd := by
  obtain ⟨neg, L, h1, h2, h3⟩ := h
  exact ⟨neg, L, h1, h2, h3.below hb⟩
theorem NumAt.zok {w : World} {p : Nat} {v : Int} {bd : Nat} (h : NumAt w p v bd) : ZOk p w w := by
  obtain ⟨neg, L, _, _, a, cap, ho, _⟩ := h
  exact ⟨But.refl _ _, _, _, _, _, ho⟩
theorem NumAt.but {w w' : World} {x z : Nat} {v : Int} {bd : Nat} (h : NumAt w x v bd) (hb : But z w w') (hx : x ≠ z) (hz : ZOk z w w) : NumAt w' x v bd := by
  obtain ⟨neg, L, h1, h2, h3⟩ := h
  obtain ⟨_, n0, a0, k0, c0, ho⟩ := hz
  exact ⟨neg, L, h1, h2, h3.but hb hx ho⟩
theorem al_below (w : World) (o : Obj) : Below w.heap.size w (w.alloc o) := (Below.refl _ _).alloc (Nat.le_refl _) _
theorem NumAt.al {w : World} {p : Nat} {v : Int} {bd : Nat} (h : NumAt w p v bd) (o : Obj) : NumAt (w.alloc o) p v bd := h.below (al_below w o)
theorem NumAt.draw {w : World} {p : Nat} {v : Int} {bd : Nat} (h : NumAt w p v bd) (m : Nat) : NumAt (w.drewN m) p v bd := h.below (bl_drewN m (Below.refl _ _))
theorem ZOk.here {z : Nat} {w w' : World} (h : ZOk z w w') : ZOk z w' w' := ⟨But.refl _ _, h.2⟩
/-- A new number's block. -/
theorem fresh_zok (w : World) : ZOk w.heap.size (w.alloc (.cells #[.bool false, .slice none 0 0] 53)) (w.alloc (.cells #[.bool false, .slice none 0 0] 53)) :=
  ⟨But.refl _ _, false, none, 0, 0, by show (w.heap.push _)[w.heap.size]? = _; rw [Array.getElem?_push_size]⟩
theorem fresh_zok' (w : World) (z : Nat) (hz : z = w.heap.size) : ZOk z (w.alloc (.cells #[.bool false, .slice none 0 0] 53)) (w.alloc (.cells #[.bool false, .slice none 0 0] 53)) := by subst hz; exact fresh_zok w
theorem fresh_num (w : World) : NumAt (w.alloc (.cells #[.bool false, .slice none 0 0] 53)) w.heap.size 0 0 :=
  ⟨false, [], rfl, Nat.le_refl _, none, 0, by show (w.heap.push _)[w.heap.size]? = _; rw [Array.getElem?_push_size]; rfl, Nat.le_refl _, fun i hi => absurd hi (Nat.not_lt_zero _), fun d hd => absurd hd List.not_mem_nil, fun c => absurd rfl c, fun _ => rfl⟩
theorem fresh_below {w w' : World} {o : Obj} (h : But w.heap.size (w.alloc o) w') : Below w.heap.size w w' := by
  have h1 : Below w.heap.size w (w.alloc o) := (Below.refl _ _).alloc (Nat.le_refl _) _
  exact h1.trans (h.below h1.size (Nat.le_refl _))
theorem PutZ.num {z : Nat} {v : Int} {bound : Nat} {w w' : World} (h : PutZ z v bound w w') : NumAt w' z v bound ∧ But z w w' := by
  obtain ⟨neg, L', h1, h2, h3, h4⟩ := h
  exact ⟨⟨neg, L', h1, h2, h3⟩, h4⟩
theorem sign_natL {neg : Bool} {L : List Nat} {w : World} {x : Nat} (h : BigAt w x neg L) : (neg = true ↔ intL neg L < 0) ∧ ((natL L : Int) = if intL neg L < 0 then -intL neg L else intL neg L) := by
  obtain ⟨a, cap, ho, hcap, hm, hd, hc, hn⟩ := h
  unfold intL
  cases neg
  · simp
    omega
  · have := neg_pos hc hn rfl
    simp
    omega
theorem intL_pow {neg : Bool} {L L' : List Nat} {n : Nat} (h : natL L' = natL L * 2 ^ n) : intL neg L' = intL neg L * 2 ^ n := by
  unfold intL
  rw [h, Int.natCast_mul, Int.natCast_pow]
  cases neg
  · rfl
  · simp [Int.neg_mul]
theorem NAdd (z x y : Nat) (a b : Int) (b1 b2 : Nat) (w : World) (hz : ZOk z w w) (hap : (0 ≤ a ∧ 0 ≤ b) ∨ (x ≠ z ∧ y ≠ z)) (hx : NumAt w x a b1) (hy : NumAt w y b b2) (h1 : b1 ≤ 900000) (h2 : b2 ≤ 900000) :
    Calls Try.prog 32 #[.pointer (some ⟨z, 0, none⟩), .pointer (some ⟨x, 0, none⟩), .pointer (some ⟨y, 0, none⟩)] w fun r w' => r = .returned (.pointer (some ⟨z, 0, none⟩)) ∧ NumAt w' z (a + b) (max b1 b2 + 1) ∧ But z w w' := by
  obtain ⟨n1, A, rfl, hA, HA⟩ := hx
  obtain ⟨n2, B, rfl, hB, HB⟩ := hy
  have hap2 : n2 = (n1 != false) ∨ (x ≠ z ∧ y ≠ z) := by
    rcases hap with h | h
    · left
      have e1 : n1 = false := by
        have := (sign_natL HA).1
        cases n1
        · rfl
        · have := this.1 rfl
          omega
      have e2 : n2 = false := by
        have := (sign_natL HB).1
        cases n2
        · rfl
        · have := this.1 rfl
          omega
      rw [e1, e2]; rfl
    · exact Or.inr h
  refine (Add_big z x y n1 n2 A B w hz hap2 HA HB (by omega) (by omega)).mono ?_
  rintro r w' ⟨rfl, h⟩
  obtain ⟨h3, h4⟩ := h.num
  exact ⟨rfl, h3.more (by omega), h4⟩
theorem NNeg (z x : Nat) (v : Int) (bd : Nat) (w : World) (hz : ZOk z w w) (hx : NumAt w x v bd) (hb : bd ≤ 900000) :
    Calls Try.prog 23 #[.pointer (some ⟨z, 0, none⟩), .pointer (some ⟨x, 0, none⟩)] w fun r w' => r = .returned (.pointer (some ⟨z, 0, none⟩)) ∧ NumAt w' z (-v) bd ∧ But z w w' := by
  obtain ⟨neg, L, rfl, hL, hB⟩ := hx
  refine (Neg_big z x neg L w hz hB (by omega)).mono ?_
  rintro r w' ⟨rfl, L', e1, e2, e3, e4⟩
  refine ⟨rfl, ⟨_, L', ?_, by omega, e3⟩, e4⟩
  unfold intL
  rw [e1]
  by_cases h0 : natL L = 0
  · rw [h0]; cases neg <;> rfl
  · rw [decide_eq_true h0, Bool.and_true]
    cases neg <;> simp
theorem NAbs (z x : Nat) (v : Int) (bd : Nat) (w : World) (hz : ZOk z w w) (hx : NumAt w x v bd) (hb : bd ≤ 900000) :
    Calls Try.prog 29 #[.pointer (some ⟨z, 0, none⟩), .pointer (some ⟨x, 0, none⟩)] w fun r w' => r = .returned (.pointer (some ⟨z, 0, none⟩)) ∧ NumAt w' z (v.natAbs : Int) bd ∧ But z w w' := by
  obtain ⟨neg, L, rfl, hL, hB⟩ := hx
  refine (Abs_big z x neg L w hz hB (by omega)).mono ?_
  rintro r w' ⟨rfl, L', e1, e2, e3, e4⟩
  refine ⟨rfl, ⟨_, L', ?_, by omega, e3⟩, e4⟩
  rw [Bool.false_and]
  unfold intL
  rw [if_neg (by decide), e1]
  cases neg <;> simp
def sgnZ (v : Int) : Int := if v = 0 then 0 else if v < 0 then -1 else 1
theorem NCmp (x y : Nat) (a b : Int) (b1 b2 : Nat) (w : World) (hx : NumAt w x a b1) (hy : NumAt w y b b2) (h1 : b1 ≤ 900000) (h2 : b2 ≤ 900000) :
    Calls Try.prog 30 #[.pointer (some ⟨x, 0, none⟩), .pointer (some ⟨y, 0, none⟩)] w fun r w' => r = .returned (.int .i64 (cmpZ a b)) ∧ Below w.heap.size w w' := by
  obtain ⟨n1, A, rfl, hA, HA⟩ := hx
  obtain ⟨n2, B, rfl, hB, HB⟩ := hy
  exact Cmp_any x y n1 n2 A B w HA HB (by omega) (by omega)
theorem num_pos {w : World} {x v bd : Nat} (hx : NumAt w x v bd) : ∃ L, natL L = v ∧ L.length ≤ bd ∧ BigAt w x false L := by
  obtain ⟨neg, L, hv, hL, hB⟩ := hx
  have hneg : neg = false := by
    have := (sign_natL hB).1
    rw [hv] at this
    cases neg
    · rfl
    · have := this.1 rfl
      omega
  subst hneg
  exact ⟨L, by unfold intL at hv; simp at hv; omega, hL, hB⟩
theorem len_small (L : List Nat) (k : Nat) (hc : CanL L) (h : natL L < 4294967296 ^ k) : L.length ≤ k := by
  by_cases h0 : L = []
  · rw [h0]; exact Nat.zero_le _
  · have h1 := natL_ge L h0 hc
    have h2 : 4294967296 ^ (L.length - 1) < 4294967296 ^ k := Nat.lt_of_le_of_lt h1 h
    have := (Nat.pow_lt_pow_iff_right (by decide : 1 < 4294967296)).1 h2
    omega
theorem NUint64 (x v bd : Nat) (w : World) (hx : NumAt w x v bd) (hv : v < 18446744073709551616) :
    Calls Try.prog 40 #[.pointer (some ⟨x, 0, none⟩)] w fun r w' => r = .returned (.int .u64 v) ∧ w' = w := by
  obtain ⟨L, rfl, hL, hB⟩ := num_pos hx
  obtain ⟨a, cap, ho, hcap, hm, hd, hc, hn⟩ := id hB
  exact Uint64_any x false L w hB (len_small L 2 hc (by simpa using hv))
theorem NNew (n : Nat) (w : World) (hn : n < 9223372036854775808) :
    Calls Try.prog 27 #[.int .i64 n] w fun r w' => r = .returned (.pointer (some ⟨w.heap.size, 0, none⟩)) ∧ NumAt w' w.heap.size n 2 ∧ Below w.heap.size w w' := by
  refine (NewInt_pos n w hn).mono ?_
  rintro r w' ⟨rfl, L', e1, e2, e3, e4⟩
  exact ⟨rfl, ⟨false, L', by unfold intL; rw [if_neg (by decide), e1], e2, e3⟩, e4⟩
end Go.Proofs.Ytfdphegiafccpaa
