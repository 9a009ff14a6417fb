
/- What the document's BitLen and Bit(0) do. -/
import Derived.Test.YtehnkgonhgjeiaaGreatDoorP19
import Derived.Test.YtehnkgonhgjeiaaGreatDoorP21
import Derived.Test.YtehnkgonhgjeiaaGreatDoorP9
namespace Go.Proofs.YtehnkgonhgjeiaaGreatDoor
open Go.RowKit Go.IntWalk

set_option maxHeartbeats 1000000 in
set_option maxRecDepth 100000 in
theorem len32_int (x : Int) (w : World) (h0 : 0 ≤ x) (h1 : x ≤ 4294967295) :
    Calls Tryz.prog 106 #[.int .u32 x] w fun r w' => r = .returned (.int .i64 (bitLen x.toNat)) ∧ w' = w := by
  go_enter Tryz.func106, Tryz.ntmps106
  rw [fold_len]
  go_wp2
  all_goals first
    | (exfalso; rename_i hno; apply hno; rw [len8_size]; omega)
    | (go_ret; refine ⟨ret_int ?_, rfl⟩; first | exact len_close x _ 24 (by omega) (by simp only [Nat.reducePow]; omega) (by omega) (by omega) _ | exact len_close x _ 16 (by omega) (by simp only [Nat.reducePow]; omega) (by omega) (by omega) _ | exact len_close x _ 8 (by omega) (by simp only [Nat.reducePow]; omega) (by omega) (by omega) _ | exact len_close0 x (by omega) (by omega) _ | exact len_close00 x (by omega) (by omega) _)
theorem len32_any (x : Nat) (w : World) (hx : x < 4294967296) :
    Calls Tryz.prog 106 #[.int .u32 x] w fun r w' => r = .returned (.int .i64 (bitLen x)) ∧ w' = w :=
  len32_int (x : Int) w (by omega) (by omega)
/-- How many bits a list of words has. -/
theorem bitLen_words (L : List Nat) (k : Nat) (hk : L.length = k + 1) (hD : DigL L) (h0 : L.getD k 0 ≠ 0) : bitLen (natL L) = 32 * k + bitLen (L.getD k 0) := by
  have e := natL_take_succ L k (by omega)
  rw [← hk, List.take_length] at e
  have hl := natL_lt (L.take k) (hD.take k)
  rw [List.length_take, Nat.min_eq_left (by omega)] at hl
  obtain ⟨d, hd⟩ : ∃ d, L.getD k 0 = d := ⟨_, rfl⟩
  rw [hd] at e h0 ⊢
  have hs := bitLen_shift (natL L) (32 * k) (by
    rw [e, ← pow32]
    have : 4294967296 ^ k * 1 ≤ 4294967296 ^ k * d := Nat.mul_le_mul_left _ (by omega)
    have hp := Nat.pow_pos (n := k) (show 0 < 4294967296 by decide)
    rw [Nat.add_mul_div_left _ _ hp, Nat.div_eq_of_lt hl]
    omega)
  rw [hs, e, ← pow32]
  have hp := Nat.pow_pos (n := k) (show 0 < 4294967296 by decide)
  rw [Nat.add_mul_div_left _ _ hp, Nat.div_eq_of_lt hl, Nat.zero_add]
set_option maxHeartbeats 1000000 in
theorem BitLen_any (x : Nat) (neg : Bool) (L : List Nat) (w : World) (h : BigAt w x neg L) (hn : L.length ≤ 1000000) :
    Calls Tryz.prog 68 #[.pointer (some ⟨x, 0, none⟩)] w fun r w' => r = .returned (.int .i64 (bitLen (natL L))) ∧ ∃ m, w' = w.drewN m := by
  obtain ⟨a, cap, ho, hcap, hm, hd, hc, hneg⟩ := h
  obtain ⟨c0, c1, hf, hlt⟩ := int_cells ho
  by_cases h0 : L.length = 0
  · have e : L = [] := List.length_eq_zero_iff.1 h0
    subst e
    clear hm hd hc hneg ho hcap hf h0 hn c0
    go_enter Tryz.func68, Tryz.ntmps68
    go_wp2
    go_ret
    exact ⟨rfl, ⟨0, rfl⟩⟩
  · obtain ⟨k, hk⟩ : ∃ k, L.length = k + 1 := ⟨L.length - 1, by omega⟩
    obtain ⟨b, off, rfl, hb, hcell⟩ := hm k (by omega)
    have hne := hc (fun c => h0 (by rw [c]; rfl))
    rw [hk, Nat.add_sub_cancel] at hne
    rw [bitLen_words L k hk hd hne]
    have hdl := hd.get k
    obtain ⟨d, hdd⟩ : ∃ d, Hid (L.getD k 0 = d) := ⟨_, rfl⟩
    rw [hdd.out] at hcell hdl ⊢
    have hbl := bitLen_le d 32 (by simpa using hdl)
    obtain ⟨l, hl⟩ : ∃ l, Hid (bitLen d = l) := ⟨_, rfl⟩
    have HL : Hid (∀ w : World, Calls Tryz.prog 106 #[.int .u32 d] w fun r w' => r = .returned (.int .i64 l) ∧ w' = w) := fun w => by
      rw [← hl.out]; exact len32_any d w hdl
    rw [hl.out] at hbl ⊢
    obtain ⟨n, hnn⟩ : ∃ n : Nat, Hid (k + 1 = n) := ⟨_, rfl⟩
    have hk1 : (n : Int) - 1 = (k : Int) := by have := hnn.out; omega
    have hwk : IntKind.i64.wrap (k : Int) = (k : Int) := by rw [IntWalk.i64_in _ (by omega)]
    have hkI : (k : Int) < (n : Int) := by omega
    have hkn : k ≤ 1000000 := by omega
    have hnz : ((n : Int) == 0) = false := by simp; omega
    have hw1 : IntKind.i64.wrap (32 * (k : Int)) = 32 * (k : Int) := by rw [IntWalk.i64_in _ (by omega)]
    have hw2 : IntKind.i64.wrap (32 * (k : Int) + (l : Int)) = 32 * (k : Int) + (l : Int) := by rw [IntWalk.i64_in _ (by omega)]
    rw [hk, hnn.out] at c1
    clear hm hd hc hneg ho hcap hf h0 hn c0 hne hdl hk
    go_enter Tryz.func68, Tryz.ntmps68
    go_wp2_with fail
    go_quiet (first | (go_at_call 106; exact Calls.quiet_of_same (HL.out _)))
    go_wp2
    go_ret
    exact ⟨ret_int (by omega), _, rfl⟩
set_option maxHeartbeats 1000000 in
theorem Bit0_any (x : Nat) (L : List Nat) (w : World) (h : BigAt w x false L) (hn : L.length ≤ 1000000) :
    Calls Tryz.prog 165 #[.pointer (some ⟨x, 0, none⟩), .int .i64 0] w fun r w' => r = .returned (.int .u64 ((natL L % 2 : Nat) : Int)) ∧ ∃ m, w' = w.drewN m := by
  obtain ⟨a, cap, ho, hcap, hm, hd, hc, hneg⟩ := h
  obtain ⟨c0, c1, hf, hlt⟩ := int_cells ho
  by_cases h0 : L.length = 0
  · have e : L = [] := List.length_eq_zero_iff.1 h0
    subst e
    clear hm hd hc hneg ho hcap hf h0 hn
    go_enter Tryz.func165, Tryz.ntmps165
    go_wp2
    go_ret
    exact ⟨rfl, ⟨0, rfl⟩⟩
  · obtain ⟨b, off, rfl, hb, m0'⟩ := hm 0 (by omega)
    have m0 : w.cell? ⟨b, off, none⟩ = some (.int .u32 (L.getD 0 0)) := m0'
    clear m0'
    have hdl := hd.get 0
    have e1 : natL L % 2 = L.getD 0 0 % 2 := by
      match L, h0 with
      | d :: t, _ => show (d + 4294967296 * natL t) % 2 = d % 2; omega
    rw [e1]
    obtain ⟨d, hdd⟩ : ∃ d, Hid (L.getD 0 0 = d) := ⟨_, rfl⟩
    rw [hdd.out] at m0 hdl ⊢
    obtain ⟨n, hnl⟩ : ∃ n, Hid (L.length = n) := ⟨_, rfl⟩
    rw [hnl.out] at c1 h0
    have hn0 : (0 : Int) < (n : Int) := by omega
    have hand : bits .and .u32 (d : Int) 1 = ((d % 2 : Nat) : Int) := by
      rw [show (1 : Int) = ((1 : Nat) : Int) from rfl, u32_and_nat d 1 hdl (by decide), Nat.and_one_is_mod]
    obtain ⟨z, hz⟩ : ∃ z, Hid (d % 2 = z) := ⟨_, rfl⟩
    have hz2 : z < 2 := by rw [← hz.out]; omega
    rw [hz.out] at hand ⊢
    have hw : IntKind.u64.wrap (z : Int) = (z : Int) := by rw [IntKind.wrap_u64]; omega
    clear hm hd hc hneg ho hcap hf h0 hn e1 hdl
    go_enter Tryz.func165, Tryz.ntmps165
    go_wp2
    go_ret
    exact ⟨ret_int (by omega), ⟨0, rfl⟩⟩
end Go.Proofs.YtehnkgonhgjeiaaGreatDoor

namespace Go.Proofs.YtehnkgonhgjeiaaGreatDoor
open Go.RowKit Go.IntWalk

/-- At a block lies a whole number of so many words at most. -/
def NumAt (w : World) (p : Nat) (v : Int) (bd : Nat) : Prop := ∃ neg L, intL neg L = v ∧ L.length ≤ bd ∧ BigAt w p neg L
theorem NumAt.lt {w : World} {p : Nat} {v : Int} {bd : Nat} (h : NumAt w p v bd) : p < w.heap.size := by
  obtain ⟨neg, L, _, _, a, cap, ho, _⟩ := h
  exact (int_cells ho).2.2.2
theorem NumAt.more {w : World} {p : Nat} {v : Int} {bd b2 : Nat} (h : NumAt w p v bd) (hb : bd ≤ b2) : NumAt w p v b2 := by
  obtain ⟨neg, L, h1, h2, h3⟩ := h
  exact ⟨neg, L, h1, by omega, h3⟩
theorem BigAt.below {w w' : World} {x : Nat} {neg : Bool} {L : List Nat} (h : BigAt w x neg L) (hb : Below w.heap.size w w') : BigAt w' x neg L := by
  obtain ⟨a, cap, ho, hcap, hm, hd, hc, hn⟩ := h
  exact ⟨a, cap, by rw [hb.block x (int_cells ho).2.2.2]; exact ho, hcap, hm.below hb, hd, hc, hn⟩
theorem NumAt.below {w w' : World} {p : Nat} {v : Int} {bd : Nat} (h : NumAt w p v bd) (hb : Below w.heap.size w w') : NumAt w' p v bd := by
  obtain ⟨neg, L, h1, h2, h3⟩ := h
  exact ⟨neg, L, h1, h2, h3.below hb⟩
theorem NumAt.zok {w : World} {p : Nat} {v : Int} {bd : Nat} (h : NumAt w p v bd) : ZOk p w w := by
  obtain ⟨neg, L, _, _, a, cap, ho, _⟩ := h
  exact ⟨But.refl _ _, _, _, _, _, ho⟩
theorem NumAt.but {w w' : World} {x z : Nat} {v : Int} {bd : Nat} (h : NumAt w x v bd) (hb : But z w w') (hx : x ≠ z) (hz : ZOk z w w) : NumAt w' x v bd := by
  obtain ⟨neg, L, h1, h2, h3⟩ := h
  obtain ⟨_, n0, a0, k0, c0, ho⟩ := hz
  exact ⟨neg, L, h1, h2, h3.but hb hx ho⟩
theorem al_below (w : World) (o : Obj) : Below w.heap.size w (w.alloc o) := (Below.refl _ _).alloc (Nat.le_refl _) _
theorem NumAt.al {w : World} {p : Nat} {v : Int} {bd : Nat} (h : NumAt w p v bd) (o : Obj) : NumAt (w.alloc o) p v bd := h.below (al_below w o)
theorem NumAt.draw {w : World} {p : Nat} {v : Int} {bd : Nat} (h : NumAt w p v bd) (m : Nat) : NumAt (w.drewN m) p v bd := h.below (bl_drewN m (Below.refl _ _))
theorem ZOk.here {z : Nat} {w w' : World} (h : ZOk z w w') : ZOk z w' w' := ⟨But.refl _ _, h.2⟩
/-- A new number's block. -/
theorem fresh_zok (w : World) : ZOk w.heap.size (w.alloc (.cells #[.bool false, .slice none 0 0] 90)) (w.alloc (.cells #[.bool false, .slice none 0 0] 90)) :=
  ⟨But.refl _ _, false, none, 0, 0, by show (w.heap.push _)[w.heap.size]? = _; rw [Array.getElem?_push_size]⟩
theorem fresh_zok' (w : World) (z : Nat) (hz : z = w.heap.size) : ZOk z (w.alloc (.cells #[.bool false, .slice none 0 0] 90)) (w.alloc (.cells #[.bool false, .slice none 0 0] 90)) := by subst hz; exact fresh_zok w
theorem fresh_num (w : World) : NumAt (w.alloc (.cells #[.bool false, .slice none 0 0] 90)) w.heap.size 0 0 :=
  ⟨false, [], rfl, Nat.le_refl _, none, 0, by show (w.heap.push _)[w.heap.size]? = _; rw [Array.getElem?_push_size]; rfl, Nat.le_refl _, fun i hi => absurd hi (Nat.not_lt_zero _), fun d hd => absurd hd List.not_mem_nil, fun c => absurd rfl c, fun _ => rfl⟩
theorem fresh_below {w w' : World} {o : Obj} (h : But w.heap.size (w.alloc o) w') : Below w.heap.size w w' := by
  have h1 : Below w.heap.size w (w.alloc o) := (Below.refl _ _).alloc (Nat.le_refl _) _
  exact h1.trans (h.below h1.size (Nat.le_refl _))
theorem PutZ.num {z : Nat} {v : Int} {bound : Nat} {w w' : World} (h : PutZ z v bound w w') : NumAt w' z v bound ∧ But z w w' := by
  obtain ⟨neg, L', h1, h2, h3, h4⟩ := h
  exact ⟨⟨neg, L', h1, h2, h3⟩, h4⟩
theorem sign_natL {neg : Bool} {L : List Nat} {w : World} {x : Nat} (h : BigAt w x neg L) : (neg = true ↔ intL neg L < 0) ∧ ((natL L : Int) = if intL neg L < 0 then -intL neg L else intL neg L) := by
  obtain ⟨a, cap, ho, hcap, hm, hd, hc, hn⟩ := h
  unfold intL
  cases neg
  · simp
    omega
  · have := neg_pos hc hn rfl
    simp
    omega
theorem intL_pow {neg : Bool} {L L' : List Nat} {n : Nat} (h : natL L' = natL L * 2 ^ n) : intL neg L' = intL neg L * 2 ^ n := by
  unfold intL
  rw [h, Int.natCast_mul, Int.natCast_pow]
  cases neg
  · rfl
  · simp [Int.neg_mul]
theorem NLsh (z x : Nat) (v : Int) (n bd : Nat) (w : World) (hz : ZOk z w w) (hx : NumAt w x v bd) (hb : bd ≤ 900000) (hn : n ≤ 30000000) :
    Calls Tryz.prog 126 #[.pointer (some ⟨z, 0, none⟩), .pointer (some ⟨x, 0, none⟩), .int .u64 n] w fun r w' => r = .returned (.pointer (some ⟨z, 0, none⟩)) ∧ NumAt w' z (v * 2 ^ n) (n / 32 + bd + 1) ∧ But z w w' := by
  obtain ⟨neg, L, rfl, hL, hB⟩ := hx
  have e : ((32 * (n / 32) + n % 32 : Nat) : Int) = (n : Int) := by omega
  have e2 : 32 * (n / 32) + n % 32 = n := by omega
  by_cases hxz : x = z
  · subst hxz
    have := Lsh_self x neg (n / 32) (n % 32) L w hz hB (Nat.mod_lt _ (by decide)) (by omega) (by omega)
    rw [e] at this
    refine this.mono ?_
    rintro r w' ⟨rfl, L', e1, e2', e3, e4⟩
    rw [e2] at e1
    exact ⟨rfl, ⟨neg, L', intL_pow e1, by omega, e3⟩, e4⟩
  · have := Lsh_any z x neg (n / 32) (n % 32) L w hz hxz hB (Nat.mod_lt _ (by decide)) (by omega) (by omega)
    rw [e] at this
    refine this.mono ?_
    rintro r w' ⟨rfl, L', e1, e2', e3, e4⟩
    rw [e2] at e1
    exact ⟨rfl, ⟨neg, L', intL_pow e1, by omega, e3⟩, e4⟩
theorem NRsh (z x : Nat) (v n bd : Nat) (w : World) (hz : ZOk z w w) (hx : NumAt w x v bd) (hb : bd ≤ 900000) (hn : n ≤ 30000000) :
    Calls Tryz.prog 72 #[.pointer (some ⟨z, 0, none⟩), .pointer (some ⟨x, 0, none⟩), .int .u64 n] w fun r w' => r = .returned (.pointer (some ⟨z, 0, none⟩)) ∧ NumAt w' z ((v / 2 ^ n : Nat) : Int) bd ∧ But z w w' := by
  obtain ⟨neg, L, hv, hL, hB⟩ := hx
  have hneg : neg = false := by
    have := (sign_natL hB).1
    rw [hv] at this
    cases neg
    · rfl
    · have := this.1 rfl
      omega
  subst hneg
  have hvL : natL L = v := by unfold intL at hv; simp at hv; omega
  have e : ((32 * (n / 32) + n % 32 : Nat) : Int) = (n : Int) := by omega
  have e2 : 32 * (n / 32) + n % 32 = n := by omega
  have := Rsh_pos z x (n / 32) (n % 32) L w hz hB (Nat.mod_lt _ (by decide)) (by omega) (by omega)
  rw [e, e2, hvL] at this
  refine this.mono ?_
  rintro r w' ⟨rfl, L', e1, e2', e3, e4⟩
  exact ⟨rfl, ⟨false, L', by unfold intL; rw [if_neg (by decide), e1], by omega, e3⟩, e4⟩
theorem NAdd (z x y : Nat) (a b : Int) (b1 b2 : Nat) (w : World) (hz : ZOk z w w) (hap : (0 ≤ a ∧ 0 ≤ b) ∨ (x ≠ z ∧ y ≠ z)) (hx : NumAt w x a b1) (hy : NumAt w y b b2) (h1 : b1 ≤ 900000) (h2 : b2 ≤ 900000) :
    Calls Tryz.prog 86 #[.pointer (some ⟨z, 0, none⟩), .pointer (some ⟨x, 0, none⟩), .pointer (some ⟨y, 0, none⟩)] w fun r w' => r = .returned (.pointer (some ⟨z, 0, none⟩)) ∧ NumAt w' z (a + b) (max b1 b2 + 1) ∧ But z w w' := by
  obtain ⟨n1, A, rfl, hA, HA⟩ := hx
  obtain ⟨n2, B, rfl, hB, HB⟩ := hy
  have hap2 : n2 = (n1 != false) ∨ (x ≠ z ∧ y ≠ z) := by
    rcases hap with h | h
    · left
      have e1 : n1 = false := by
        have := (sign_natL HA).1
        cases n1
        · rfl
        · have := this.1 rfl
          omega
      have e2 : n2 = false := by
        have := (sign_natL HB).1
        cases n2
        · rfl
        · have := this.1 rfl
          omega
      rw [e1, e2]; rfl
    · exact Or.inr h
  refine (Add_big z x y n1 n2 A B w hz hap2 HA HB (by omega) (by omega)).mono ?_
  rintro r w' ⟨rfl, h⟩
  obtain ⟨h3, h4⟩ := h.num
  exact ⟨rfl, h3.more (by omega), h4⟩
theorem NSub (z x y : Nat) (a b : Int) (b1 b2 : Nat) (w : World) (hz : ZOk z w w) (hxz : x ≠ z) (hyz : y ≠ z) (hx : NumAt w x a b1) (hy : NumAt w y b b2) (h1 : b1 ≤ 900000) (h2 : b2 ≤ 900000) :
    Calls Tryz.prog 163 #[.pointer (some ⟨z, 0, none⟩), .pointer (some ⟨x, 0, none⟩), .pointer (some ⟨y, 0, none⟩)] w fun r w' => r = .returned (.pointer (some ⟨z, 0, none⟩)) ∧ NumAt w' z (a - b) (max b1 b2 + 1) ∧ But z w w' := by
  obtain ⟨n1, A, rfl, hA, HA⟩ := hx
  obtain ⟨n2, B, rfl, hB, HB⟩ := hy
  refine (Sub_big z x y n1 n2 A B w hz (Or.inr ⟨hxz, hyz⟩) HA HB (by omega) (by omega)).mono ?_
  rintro r w' ⟨rfl, h⟩
  obtain ⟨h3, h4⟩ := h.num
  exact ⟨rfl, h3.more (by omega), h4⟩
theorem NNeg (z x : Nat) (v : Int) (bd : Nat) (w : World) (hz : ZOk z w w) (hx : NumAt w x v bd) (hb : bd ≤ 900000) :
    Calls Tryz.prog 84 #[.pointer (some ⟨z, 0, none⟩), .pointer (some ⟨x, 0, none⟩)] w fun r w' => r = .returned (.pointer (some ⟨z, 0, none⟩)) ∧ NumAt w' z (-v) bd ∧ But z w w' := by
  obtain ⟨neg, L, rfl, hL, hB⟩ := hx
  refine (Neg_big z x neg L w hz hB (by omega)).mono ?_
  rintro r w' ⟨rfl, L', e1, e2, e3, e4⟩
  refine ⟨rfl, ⟨_, L', ?_, by omega, e3⟩, e4⟩
  unfold intL
  rw [e1]
  by_cases h0 : natL L = 0
  · rw [h0]; cases neg <;> rfl
  · rw [decide_eq_true h0, Bool.and_true]
    cases neg <;> simp
theorem NAbs (z x : Nat) (v : Int) (bd : Nat) (w : World) (hz : ZOk z w w) (hx : NumAt w x v bd) (hb : bd ≤ 900000) :
    Calls Tryz.prog 70 #[.pointer (some ⟨z, 0, none⟩), .pointer (some ⟨x, 0, none⟩)] w fun r w' => r = .returned (.pointer (some ⟨z, 0, none⟩)) ∧ NumAt w' z (v.natAbs : Int) bd ∧ But z w w' := by
  obtain ⟨neg, L, rfl, hL, hB⟩ := hx
  refine (Abs_big z x neg L w hz hB (by omega)).mono ?_
  rintro r w' ⟨rfl, L', e1, e2, e3, e4⟩
  refine ⟨rfl, ⟨_, L', ?_, by omega, e3⟩, e4⟩
  rw [Bool.false_and]
  unfold intL
  rw [if_neg (by decide), e1]
  cases neg <;> simp
def sgnZ (v : Int) : Int := if v = 0 then 0 else if v < 0 then -1 else 1
theorem NSign (x : Nat) (v : Int) (bd : Nat) (w : World) (hx : NumAt w x v bd) :
    Calls Tryz.prog 69 #[.pointer (some ⟨x, 0, none⟩)] w fun r w' => r = .returned (.int .i64 (sgnZ v)) ∧ w' = w := by
  obtain ⟨neg, L, rfl, hL, hB⟩ := hx
  obtain ⟨s1, s2⟩ := sign_natL hB
  refine (Sign_any x neg L w hB).mono ?_
  rintro r w' ⟨rfl, rfl⟩
  refine ⟨?_, rfl⟩
  apply ret_int
  unfold sgnZ
  by_cases h0 : natL L = 0
  · have : intL neg L = 0 := by unfold intL; rw [h0]; cases neg <;> rfl
    rw [if_pos h0, if_pos this]
  · have hne : intL neg L ≠ 0 := by
      intro c
      rw [c] at s2
      simp at s2
      exact h0 s2
    rw [if_neg h0, if_neg hne]
    by_cases hn : neg = true
    · rw [if_pos hn, if_pos (s1.1 hn)]
    · rw [if_neg hn, if_neg (fun c => hn (s1.2 c))]
theorem NCmp (x y : Nat) (a b : Int) (b1 b2 : Nat) (w : World) (hx : NumAt w x a b1) (hy : NumAt w y b b2) (h1 : b1 ≤ 900000) (h2 : b2 ≤ 900000) :
    Calls Tryz.prog 164 #[.pointer (some ⟨x, 0, none⟩), .pointer (some ⟨y, 0, none⟩)] w fun r w' => r = .returned (.int .i64 (cmpZ a b)) ∧ Below w.heap.size w w' := by
  obtain ⟨n1, A, rfl, hA, HA⟩ := hx
  obtain ⟨n2, B, rfl, hB, HB⟩ := hy
  exact Cmp_any x y n1 n2 A B w HA HB (by omega) (by omega)
theorem NBitLen (x : Nat) (v : Int) (bd : Nat) (w : World) (hx : NumAt w x v bd) (hb : bd ≤ 900000) :
    Calls Tryz.prog 68 #[.pointer (some ⟨x, 0, none⟩)] w fun r w' => r = .returned (.int .i64 (bitLen v.natAbs)) ∧ ∃ m, w' = w.drewN m := by
  obtain ⟨neg, L, rfl, hL, hB⟩ := hx
  have e : (intL neg L).natAbs = natL L := by unfold intL; cases neg <;> simp
  rw [e]
  exact BitLen_any x neg L w hB (by omega)
theorem num_pos {w : World} {x v bd : Nat} (hx : NumAt w x v bd) : ∃ L, natL L = v ∧ L.length ≤ bd ∧ BigAt w x false L := by
  obtain ⟨neg, L, hv, hL, hB⟩ := hx
  have hneg : neg = false := by
    have := (sign_natL hB).1
    rw [hv] at this
    cases neg
    · rfl
    · have := this.1 rfl
      omega
  subst hneg
  exact ⟨L, by unfold intL at hv; simp at hv; omega, hL, hB⟩
theorem NBit0 (x v bd : Nat) (w : World) (hx : NumAt w x v bd) (hb : bd ≤ 900000) :
    Calls Tryz.prog 165 #[.pointer (some ⟨x, 0, none⟩), .int .i64 0] w fun r w' => r = .returned (.int .u64 ((v % 2 : Nat) : Int)) ∧ ∃ m, w' = w.drewN m := by
  obtain ⟨L, rfl, hL, hB⟩ := num_pos hx
  exact Bit0_any x L w hB (by omega)
theorem len_small (L : List Nat) (k : Nat) (hc : CanL L) (h : natL L < 4294967296 ^ k) : L.length ≤ k := by
  by_cases h0 : L = []
  · rw [h0]; exact Nat.zero_le _
  · have h1 := natL_ge L h0 hc
    have h2 : 4294967296 ^ (L.length - 1) < 4294967296 ^ k := Nat.lt_of_le_of_lt h1 h
    have := (Nat.pow_lt_pow_iff_right (by decide : 1 < 4294967296)).1 h2
    omega
theorem NUint64 (x v bd : Nat) (w : World) (hx : NumAt w x v bd) (hv : v < 18446744073709551616) :
    Calls Tryz.prog 71 #[.pointer (some ⟨x, 0, none⟩)] w fun r w' => r = .returned (.int .u64 v) ∧ w' = w := by
  obtain ⟨L, rfl, hL, hB⟩ := num_pos hx
  obtain ⟨a, cap, ho, hcap, hm, hd, hc, hn⟩ := id hB
  exact Uint64_any x false L w hB (len_small L 2 hc (by simpa using hv))
theorem NNew (n : Nat) (w : World) (hn : n < 9223372036854775808) :
    Calls Tryz.prog 82 #[.int .i64 n] w fun r w' => r = .returned (.pointer (some ⟨w.heap.size, 0, none⟩)) ∧ NumAt w' w.heap.size n 2 ∧ Below w.heap.size w w' := by
  refine (NewInt_pos n w hn).mono ?_
  rintro r w' ⟨rfl, L', e1, e2, e3, e4⟩
  exact ⟨rfl, ⟨false, L', by unfold intL; rw [if_neg (by decide), e1], e2, e3⟩, e4⟩
theorem NSetU (z n : Nat) (w : World) (hz : ZOk z w w) (hn : n < 18446744073709551616) :
    Calls Tryz.prog 117 #[.pointer (some ⟨z, 0, none⟩), .int .u64 n] w fun r w' => r = .returned (.pointer (some ⟨z, 0, none⟩)) ∧ NumAt w' z n 2 ∧ But z w w' := by
  obtain ⟨_, neg0, a0, n0, cap0, ho⟩ := hz
  refine (SetUint64_any z neg0 a0 n0 cap0 n w ho hn).mono ?_
  rintro r w' ⟨rfl, L', e1, e2, e3, e4⟩
  exact ⟨rfl, ⟨false, L', by unfold intL; rw [if_neg (by decide), e1], e2, e3⟩, e4⟩
end Go.Proofs.YtehnkgonhgjeiaaGreatDoor

namespace Go.Proofs.YtehnkgonhgjeiaaGreatDoor
open Go.RowKit Go.IntWalk

set_option maxHeartbeats 4000000 in
theorem Mul_big (z x y : Nat) (n1 n2 : Bool) (A B : List Nat) (w : World) (hz : ZOk z w w) (hxz : x ≠ z) (hyz : y ≠ z) (hx : BigAt w x n1 A) (hy : BigAt w y n2 B) (hA : A.length ≤ 400000) (hB : B.length ≤ 400000) :
    Calls Tryz.prog 85 #[.pointer (some ⟨z, 0, none⟩), .pointer (some ⟨x, 0, none⟩), .pointer (some ⟨y, 0, none⟩)] w fun r w' => r = .returned (.pointer (some ⟨z, 0, none⟩)) ∧ PutIs z ((n1 != n2) && decide (natL A * natL B ≠ 0)) (natL A * natL B) (A.length + B.length) w w' := by
  obtain ⟨a, ca, ho, hcap, hm, hd, hc, hneg⟩ := hx
  obtain ⟨c0, c1, hf, hlt⟩ := int_cells ho
  obtain ⟨b, cb, ho', hcap', hm', hd', hc', hneg'⟩ := hy
  obtain ⟨c0', c1', hf', hlt'⟩ := int_cells ho'
  have HMA : Hid (∀ w', ZOk z w w' → MagAt w' a A) := by
    intro w' hw
    obtain ⟨_, neg0, a0, n0, cap0, hoz⟩ := hz
    refine hm.but hw.1 (fun b off e h0 => ?_)
    obtain ⟨b', off', e', hne⟩ := mag_ne hoz hm h0
    rw [e] at e'
    cases e'
    exact hne
  have HMB : Hid (∀ w', ZOk z w w' → MagAt w' b B) := by
    intro w' hw
    obtain ⟨_, neg0, a0, n0, cap0, hoz⟩ := hz
    refine hm'.but hw.1 (fun b off e h0 => ?_)
    obtain ⟨b', off', e', hne⟩ := mag_ne hoz hm' h0
    rw [e] at e'
    cases e'
    exact hne
  have HL : Hid (∀ w', Hid (ZOk z w w') → Calls Tryz.prog 133 #[.slice a A.length ca, .slice b B.length cb] w' fun r w1 => ∃ L' a' cap', r = .returned (.slice a' L'.length cap') ∧ Hid (MagIs (natL A * natL B) (A.length + B.length) L' a' cap' w1) ∧ Hid (ZOk z w w1)) := by
    intro w' hw
    refine (times_any A B a b ca cb w' (HMA.out _ hw.out) (HMB.out _ hw.out) hA hB hd hd').mono ?_
    rintro r w1 ⟨⟨L', a', cap', hr, h1⟩, hb1⟩
    exact ⟨L', a', cap', hr, h1, ZOk.below hw.out hb1⟩
  obtain ⟨v, hv⟩ : ∃ v, Hid (natL A * natL B = v) := ⟨_, rfl⟩
  obtain ⟨bd, hbd⟩ : ∃ bd, Hid (A.length + B.length = bd) := ⟨_, rfl⟩
  rw [hv.out, hbd.out] at HL ⊢
  have HP : Hid (∀ w1 L' a' cap', Hid (ZOk z w w1) → Hid (MagIs v bd L' a' cap' w1) → Calls Tryz.prog 119 #[.pointer (some ⟨z, 0, none⟩), .bool (n1 != n2), .slice a' L'.length cap'] w1 fun r w' => r = .returned (.pointer (some ⟨z, 0, none⟩)) ∧ Hid (PutIs z ((n1 != n2) && decide (v ≠ 0)) v bd w w') ∧ Hid (ZOk z w w')) := by
    intro w1 L' a' cap' h1 h2
    refine (put_is z (n1 != n2) v bd w w1 L' a' cap' h1.out h2.out (by have := hbd.out; omega)).mono ?_
    rintro r w' ⟨rfl, L', e1, e2, e3, e4⟩
    exact ⟨rfl, ⟨L', e1, e2, e3, e4⟩, ZOk.big h1.out e4 e3⟩
  obtain ⟨k, hk⟩ : ∃ k, Hid (A.length = k) := ⟨_, rfl⟩
  obtain ⟨l, hl⟩ : ∃ l, Hid (B.length = l) := ⟨_, rfl⟩
  rw [hk.out] at HL c1
  rw [hl.out] at HL c1'
  have HK : Hid (∀ w', Hid (ZOk z w w') → (w'.cell? ⟨x, 0, none⟩ = some (.bool n1) ∧ w'.cell? ⟨x, 1, none⟩ = some (.slice a k ca) ∧ w'.cell? ⟨y, 0, none⟩ = some (.bool n2) ∧ w'.cell? ⟨y, 1, none⟩ = some (.slice b l cb)) ∧ Hid (ZOk z w w')) := fun w' h => ⟨⟨h.out.1.cell c0 hxz, h.out.1.cell c1 hxz, h.out.1.cell c0' hyz, h.out.1.cell c1' hyz⟩, h⟩
  have HZ0 : Hid (ZOk z w w.drew) := hz.drew
  clear hz hA hB hm hm' hd hd' hc hc' hneg hneg' ho ho' hcap hcap' hf hf' HMA HMB hxz hyz
  cases n1 <;> cases n2
  all_goals simp only [bne_self_eq_false, Bool.false_bne, Bool.true_bne, Bool.not_false] at HP ⊢
  all_goals
    go_enter Tryz.func85, Tryz.ntmps85
    go_wp2_with fail
  · go_region_held3 (fun w' => (w'.cell? ⟨x, 0, none⟩ = some (.bool false) ∧ w'.cell? ⟨x, 1, none⟩ = some (.slice a k ca) ∧ w'.cell? ⟨y, 0, none⟩ = some (.bool false) ∧ w'.cell? ⟨y, 1, none⟩ = some (.slice b l cb)) ∧ Hid (ZOk z w w')) (exact HK.out _ (by assumption))
      (first
        | (go_at_call 133; refine (HL.out _ (And.right (by assumption))).mono ?_; rintro r w2 ⟨L', a', cap', rfl, HM, HZ2⟩)
        | (go_at_call 119; refine (HP.out _ _ _ _ (by assumption) (by assumption)).mono ?_; rintro r w3 ⟨rfl, HE, HZ3⟩))
    all_goals go_wp2
    all_goals go_ret
    all_goals exact ⟨rfl, Hid.out (by assumption)⟩
  · go_region_held3 (fun w' => (w'.cell? ⟨x, 0, none⟩ = some (.bool false) ∧ w'.cell? ⟨x, 1, none⟩ = some (.slice a k ca) ∧ w'.cell? ⟨y, 0, none⟩ = some (.bool true) ∧ w'.cell? ⟨y, 1, none⟩ = some (.slice b l cb)) ∧ Hid (ZOk z w w')) (exact HK.out _ (by assumption))
      (first
        | (go_at_call 133; refine (HL.out _ (And.right (by assumption))).mono ?_; rintro r w2 ⟨L', a', cap', rfl, HM, HZ2⟩)
        | (go_at_call 119; refine (HP.out _ _ _ _ (by assumption) (by assumption)).mono ?_; rintro r w3 ⟨rfl, HE, HZ3⟩))
    all_goals go_wp2
    all_goals go_ret
    all_goals exact ⟨rfl, Hid.out (by assumption)⟩
  · go_region_held3 (fun w' => (w'.cell? ⟨x, 0, none⟩ = some (.bool true) ∧ w'.cell? ⟨x, 1, none⟩ = some (.slice a k ca) ∧ w'.cell? ⟨y, 0, none⟩ = some (.bool false) ∧ w'.cell? ⟨y, 1, none⟩ = some (.slice b l cb)) ∧ Hid (ZOk z w w')) (exact HK.out _ (by assumption))
      (first
        | (go_at_call 133; refine (HL.out _ (And.right (by assumption))).mono ?_; rintro r w2 ⟨L', a', cap', rfl, HM, HZ2⟩)
        | (go_at_call 119; refine (HP.out _ _ _ _ (by assumption) (by assumption)).mono ?_; rintro r w3 ⟨rfl, HE, HZ3⟩))
    all_goals go_wp2
    all_goals go_ret
    all_goals exact ⟨rfl, Hid.out (by assumption)⟩
  · go_region_held3 (fun w' => (w'.cell? ⟨x, 0, none⟩ = some (.bool true) ∧ w'.cell? ⟨x, 1, none⟩ = some (.slice a k ca) ∧ w'.cell? ⟨y, 0, none⟩ = some (.bool true) ∧ w'.cell? ⟨y, 1, none⟩ = some (.slice b l cb)) ∧ Hid (ZOk z w w')) (exact HK.out _ (by assumption))
      (first
        | (go_at_call 133; refine (HL.out _ (And.right (by assumption))).mono ?_; rintro r w2 ⟨L', a', cap', rfl, HM, HZ2⟩)
        | (go_at_call 119; refine (HP.out _ _ _ _ (by assumption) (by assumption)).mono ?_; rintro r w3 ⟨rfl, HE, HZ3⟩))
    all_goals go_wp2
    all_goals go_ret
    all_goals exact ⟨rfl, Hid.out (by assumption)⟩
theorem NMul (z x y : Nat) (a b : Int) (b1 b2 : Nat) (w : World) (hz : ZOk z w w) (hxz : x ≠ z) (hyz : y ≠ z) (hx : NumAt w x a b1) (hy : NumAt w y b b2) (h1 : b1 ≤ 400000) (h2 : b2 ≤ 400000) :
    Calls Tryz.prog 85 #[.pointer (some ⟨z, 0, none⟩), .pointer (some ⟨x, 0, none⟩), .pointer (some ⟨y, 0, none⟩)] w fun r w' => r = .returned (.pointer (some ⟨z, 0, none⟩)) ∧ NumAt w' z (a * b) (b1 + b2) ∧ But z w w' := by
  obtain ⟨n1, A, rfl, hA, HA⟩ := hx
  obtain ⟨n2, B, rfl, hB, HB⟩ := hy
  refine (Mul_big z x y n1 n2 A B w hz hxz hyz HA HB (by omega) (by omega)).mono ?_
  rintro r w' ⟨rfl, L', e1, e2, e3, e4⟩
  refine ⟨rfl, ⟨_, L', ?_, by omega, e3⟩, e4⟩
  unfold intL
  rw [e1]
  by_cases h0 : natL A * natL B = 0
  · have hz0 : (natL A : Int) * (natL B : Int) = 0 := by rw [← Int.natCast_mul, h0]; rfl
    rw [h0]
    cases n1 <;> cases n2 <;> simp [hz0, Int.neg_mul, Int.mul_neg]
  · rw [decide_eq_true h0, Bool.and_true]
    cases n1 <;> cases n2 <;> simp [Int.natCast_mul, Int.neg_mul, Int.mul_neg]
end Go.Proofs.YtehnkgonhgjeiaaGreatDoor

namespace Go.Proofs.YtehnkgonhgjeiaaGreatDoor
open Go.RowKit Go.IntWalk

set_option maxHeartbeats 1000000 in
theorem NInt64 (x : Nat) (v : Int) (bd : Nat) (w : World) (hx : NumAt w x v bd) (h1 : -9223372036854775808 ≤ v) (h2 : v ≤ 9223372036854775807) :
    Calls Tryz.prog 136 #[.pointer (some ⟨x, 0, none⟩)] w fun r w' => r = .returned (.int .i64 v) ∧ w' = w := by
  obtain ⟨neg, L, hv, hL, hB⟩ := hx
  obtain ⟨a, cap, ho, hcap, hm, hd, hc, hn⟩ := id hB
  obtain ⟨c0, c1, hf, hlt⟩ := int_cells ho
  have hnv : natL L = v.natAbs := by rw [← hv]; unfold intL; cases neg <;> simp
  have hlen : L.length ≤ 2 := len_small L 2 hc (by rw [hnv]; simp only [Nat.reducePow]; omega)
  have HU := hid (Uint64_any x neg L w hB hlen)
  obtain ⟨n, hnn⟩ : ∃ n, Hid (natL L = n) := ⟨_, rfl⟩
  rw [hnn.out] at HU hnv
  have hv2 : v = if neg = true then -(n : Int) else (n : Int) := by rw [← hv]; unfold intL; rw [hnn.out]
  cases neg
  · simp only [Bool.false_eq_true, if_false] at hv2
    subst hv2
    have hw : IntKind.i64.wrap (n : Int) = (n : Int) := by rw [IntWalk.i64_in _ (by omega)]
    clear h1 h2 hnv hm hd hc hn ho hcap hL hlen hv hB
    go_enter Tryz.func136, Tryz.ntmps136
    go_wp2_with fail
    refine HU.out.mono ?_
    rintro r w1 ⟨rfl, rfl⟩
    go_wp2
    go_ret
    exact ⟨by first | rfl | simp, rfl⟩
  · simp only [if_true] at hv2
    subst hv2
    obtain ⟨V, hV⟩ : ∃ V : Int, Hid (IntKind.u64.wrap (-(n : Int)) = V) := ⟨_, rfl⟩
    have hw1 : IntKind.u64.wrap (-(n : Int)) = V := hV.out
    have hw : IntKind.i64.wrap V = -(n : Int) := by
      rw [← hw1, IntKind.wrap_u64, IntKind.wrap_i64]
      omega
    clear h1 h2 hnv hm hd hc hn ho hcap hL hlen hv hB
    go_enter Tryz.func136, Tryz.ntmps136
    go_wp2_with fail
    refine HU.out.mono ?_
    rintro r w1 ⟨rfl, rfl⟩
    go_wp2
    go_ret
    exact ⟨by first | rfl | simp, rfl⟩
end Go.Proofs.YtehnkgonhgjeiaaGreatDoor

namespace Go.Proofs.YtehnkgonhgjeiaaGreatDoor
open Go.RowKit Go.IntWalk

/-- As MagOk, and the words lie from block B on. -/
def MagOkF (B v bound : Nat) (r : Ending) (w' : World) : Prop := ∃ (L' : List Nat) (a' : Option Addr) (cap' : Nat), r = .returned (.slice a' L'.length cap') ∧ L'.length ≤ cap' ∧ L'.length ≤ bound ∧ MagAt w' a' L' ∧ DigL L' ∧ CanL L' ∧ natL L' = v ∧ (∀ p, a' = some p → B ≤ p.block)
def MagIsF (B v bound : Nat) (L' : List Nat) (a' : Option Addr) (cap' : Nat) (w' : World) : Prop := L'.length ≤ cap' ∧ L'.length ≤ bound ∧ MagAt w' a' L' ∧ DigL L' ∧ CanL L' ∧ natL L' = v ∧ (∀ p, a' = some p → B ≤ p.block)
def BigAtF (B : Nat) (w : World) (x : Nat) (neg : Bool) (L : List Nat) : Prop :=
  ∃ a cap, w.heap[x]? = some (.cells #[.bool neg, .slice a L.length cap] 90) ∧ L.length ≤ cap ∧ MagAt w a L ∧ DigL L ∧ CanL L ∧ (L = [] → neg = false) ∧ (∀ p, a = some p → B ≤ p.block)
def PutIsF (B z : Nat) (neg : Bool) (v bound : Nat) (w w' : World) : Prop := ∃ L', natL L' = v ∧ L'.length ≤ bound ∧ BigAtF B w' z neg L' ∧ But z w w'
set_option maxRecDepth 4000 in
set_option maxHeartbeats 1000000 in
theorem right_loopF (L : List Nat) (b off cap q s : Nat) (w : World) (hb : b < w.heap.size) (hcell : ∀ i, i < L.length → w.cell? ⟨b, off + i, none⟩ = some (.int .u32 (L.getD i 0))) (h0 : q < L.length) (hs : s < 32) (hq : q ≤ 1000000) (hn : L.length ≤ 1000000) (hD : DigL L) :
    Calls Tryz.prog 120 #[.slice (some ⟨b, off, none⟩) L.length cap, .int .u64 ((32 * q + s : Nat) : Int)] w fun r w' => MagOkF w.heap.size (natL L / 2 ^ (32 * q + s)) L.length r w' ∧ Below w.heap.size w w' := by
  have HC := hid hcell
  have HB := hid hb
  have HS := hid hs
  obtain ⟨n, hnl⟩ : ∃ n, Hid (L.length = n) := ⟨_, rfl⟩
  rw [hnl.out] at hn h0 ⊢
  obtain ⟨N, hN⟩ : ∃ N : Int, Hid (((32 * q + s : Nat) : Int) = N) := ⟨_, rfl⟩
  rw [hN.out]
  have hdiv : N / 32 = (q : Int) := by have := hN.out; omega
  have hmod : N % 32 = (s : Int) := by have := hN.out; omega
  have hqn : ¬ (n : Int) ≤ (q : Int) := by omega
  obtain ⟨M, hM⟩ : ∃ M, Hid (n - q = M) := ⟨_, rfl⟩
  have hM1 : IntKind.i64.wrap ((n : Int) - (q : Int)) = (M : Int) := by have := hM.out; rw [IntWalk.i64_in _ (by omega)]; omega
  have hM2 : (n : Int) - (q : Int) = (M : Int) := by have := hM.out; omega
  have hMn : q + M = n := by have := hM.out; omega
  have hmk := run_make_row' (P := Tryz.prog) 39 92 (.int .u32 0) 4 Tryz.underlying39 infoU rfl .i64 .i64 M (by have := hM.out; omega) (by have := hM.out; omega)
  have HMN := hid hMn
  clear hcell h0 hb hs hMn
  go_enter Tryz.func120, Tryz.ntmps120
  go_wp2
  go_loopw [8] (fun i wr => ∃ (k : Nat), k ≤ M ∧ i = .int .i64 k ∧ Hid (wr.rowIs w.heap.size 92 M (fun j => .int .u32 ((if j < k then rWord L q s j else 0 : Nat) : Int))) ∧ Hid (Below w.heap.size w wr)) (fun i _ => M - (intOf i).toNat)
  case atStart => exact ⟨0, Nat.zero_le _, rfl, (World.rowIs_made w (.int .u32 0) M _).congr (fun j _ => by rw [if_neg (Nat.not_lt_zero j)]; rfl), (Below.refl _ _).alloc (Nat.le_refl _) _⟩
  case round =>
    obtain ⟨k, hkM, rfl, HR, HBW⟩ := hrel
    by_cases hlt : k < M
    · obtain ⟨P, hP⟩ : ∃ P, Hid (q + k = P) := ⟨_, rfl⟩
      have hPn : P < n := by have := hP.out; have := HMN.out; omega
      have hPI : (P : Int) < (n : Int) := by omega
      have hP1 : IntKind.i64.wrap ((q : Int) + (k : Int)) = (P : Int) := by have := hP.out; rw [IntWalk.i64_in _ (by omega)]; omega
      have hP2 : (q : Int) + (k : Int) = (P : Int) := by have := hP.out; omega
      have hck : wr.cell? ⟨b, off + P, none⟩ = some (.int .u32 (L.getD P 0)) := by
        rw [HBW.out.cell (p := ⟨b, off + P, none⟩) HB.out]
        exact HC.out P (by rw [hnl.out]; exact hPn)
      have hdl := hD.get P
      have hel := hD.get (P + 1)
      have hrw := rWord_is L hD q s k HS.out
      rw [hP.out] at hrw
      have hmin : min s 64 = s := Nat.min_eq_left (by have := HS.out; omega)
      have hkI : (k : Int) < (M : Int) := by omega
      have fx := HR.out.frozen
      have hlt2 := HR.out.lt
      have cx := HR.out.cell (i := k) (by omega)
      rw [if_neg (Nat.lt_irrefl k)] at cx
      obtain ⟨d, hd⟩ : ∃ d, Hid (L.getD P 0 = d) := ⟨_, rfl⟩
      rw [hd.out] at hck hdl hrw
      have hwd : IntKind.u64.wrap (d : Int) = (d : Int) := by rw [IntKind.wrap_u64]; omega
      obtain ⟨r, hr⟩ : ∃ r, Hid (rWord L q s k = r) := ⟨_, rfl⟩
      have HROW : Hid (∀ j, (if j = k then Value.int .u32 (r : Int) else Value.int .u32 ((if j < k then rWord L q s j else 0 : Nat) : Int)) = Value.int .u32 ((if j < k + 1 then rWord L q s j else 0 : Nat) : Int)) := fun j => right_row L q s k r j hr.out
      rw [hr.out] at hrw
      have HF : Hid (wr.rowIs w.heap.size 92 M (fun j => .int .u32 ((if j < k then rWord L q s j else 0 : Nat) : Int)) ∧ Below w.heap.size w wr) := ⟨HR.out, HBW.out⟩
      clear HR HBW hr
      by_cases hc : P + 1 < n
      · have hck2 : wr.cell? ⟨b, off + (P + 1), none⟩ = some (.int .u32 (L.getD (P + 1) 0)) := by
          rw [HF.out.2.cell (p := ⟨b, off + (P + 1), none⟩) HB.out]
          exact HC.out (P + 1) (by rw [hnl.out]; exact hc)
        obtain ⟨e, he⟩ : ∃ e, Hid (L.getD (P + 1) 0 = e) := ⟨_, rfl⟩
        rw [he.out] at hck2 hel hrw
        have hwe : IntKind.u64.wrap (e : Int) = (e : Int) := by rw [IntKind.wrap_u64]; omega
        have hor := or_words d e hdl hel
        have hcI : (P : Int) + 1 < (n : Int) := by omega
        obtain ⟨T, hT⟩ : ∃ T, Hid (d + 4294967296 * e = T) := ⟨_, rfl⟩
        rw [hT.out] at hor hrw
        have hsh : IntKind.u32.wrap ((T : Int) / 2 ^ s) = (r : Int) := by
          rw [IntKind.wrap_u32, show ((T : Int) / 2 ^ s) = ((T / 2 ^ s : Nat) : Int) by rw [Int.natCast_ediv, Int.natCast_pow]; rfl]
          omega
        clear hdl hel hrw
        go_wp2
        refine ⟨⟨k + 1, by omega, by go_num, (HF.out.1.set k _).congr (fun j _ => HROW.out j), Below.setCell HF.out.2 (Nat.le_refl _) _⟩, ?_⟩
        simp [intOf]; omega
      · have he : L.getD (P + 1) 0 = 0 := by
          have hn' : ¬ P + 1 < L.length := by rw [hnl.out]; exact hc
          simp [List.getD, hn']
        rw [he, Nat.mul_zero, Nat.add_zero] at hrw
        have hcI : (n : Int) ≤ (P : Int) + 1 := by omega
        have hsh : IntKind.u32.wrap ((d : Int) / 2 ^ s) = (r : Int) := by
          rw [IntKind.wrap_u32, show ((d : Int) / 2 ^ s) = ((d / 2 ^ s : Nat) : Int) by rw [Int.natCast_ediv, Int.natCast_pow]; rfl]
          omega
        clear hdl hel hrw he
        go_wp2
        refine ⟨⟨k + 1, by omega, by go_num, (HF.out.1.set k _).congr (fun j _ => HROW.out j), Below.setCell HF.out.2 (Nat.le_refl _) _⟩, ?_⟩
        simp [intOf]; omega
    · have hkn' : k = M := by omega
      subst hkn'
      have HL := hid (show ((List.range k).map (rWord L q s)).length = k by rw [List.length_map, List.length_range])
      have HR2 : Hid (wr.rowIs w.heap.size 92 k (fun j => .int .u32 (rWord L q s j))) := HR.out.congr (fun j hj => by rw [if_pos hj])
      have HCUT := hid (bcut_any ((List.range k).map (rWord L q s)) (some ⟨w.heap.size, 0, none⟩) k wr (row_mag wr _ k _ _ HR2.out) (by rw [HL.out]; exact Nat.le_refl _) (by rw [HL.out]; have := HMN.out; omega))
      rw [HL.out] at HCUT
      clear HR
      go_wp2_with fail
      refine HCUT.out.mono ?_
      rintro r w1 ⟨⟨j, hj, rfl, hv, he⟩, rfl⟩
      have hDo : DigL ((List.range k).map (rWord L q s)) := by
        intro d hd
        obtain ⟨i, _, rfl⟩ := List.mem_map.1 hd
        exact Nat.mod_lt _ (by decide)
      obtain ⟨hcan, hlen⟩ := can_take _ j (by rw [HL.out]; exact hj) he
      have HF : Hid (MagOkF w.heap.size (natL L / 2 ^ (32 * q + s)) n (.returned (.slice (some ⟨w.heap.size, 0, none⟩) j k)) w1) := by
        refine ⟨((List.range k).map (rWord L q s)).take j, _, k, by rw [hlen], by rw [hlen]; exact hj, by rw [hlen]; have := HMN.out; omega, (row_mag w1 _ k _ _ HR2.out).take j, hDo.take j, hcan, ?_, fun p hp => by cases hp; exact Nat.le_refl _⟩
        rw [hv, natF_list]
        exact right_val L hD q s k (by rw [hnl.out]; have := HMN.out; omega)
      clear hv he hcan hlen hDo hj
      go_wp2
      go_ret
      exact ⟨HF.out, HBW.out⟩
theorem right_anyF (L : List Nat) (a : Option Addr) (cap q s : Nat) (w : World) (hm : MagAt w a L) (hs : s < 32) (hq : q ≤ 1000000) (hn : L.length ≤ 1000000) (hD : DigL L) :
    Calls Tryz.prog 120 #[.slice a L.length cap, .int .u64 ((32 * q + s : Nat) : Int)] w fun r w' => MagOkF w.heap.size (natL L / 2 ^ (32 * q + s)) L.length r w' ∧ Below w.heap.size w w' := by
  by_cases h0 : q < L.length
  · obtain ⟨b, off, rfl, hb, _⟩ := hm 0 (by omega)
    refine right_loopF L b off cap q s w hb (fun i hi => ?_) h0 hs hq hn hD
    obtain ⟨b', off', e, _, hc⟩ := hm i hi
    cases e
    exact hc
  · refine (right_nil a L.length cap q s w hs hq (by omega)).mono ?_
    rintro r w' ⟨rfl, rfl⟩
    refine ⟨?_, Below.refl _ _⟩
    have e : natL L / 2 ^ (32 * q + s) = 0 := by
      rw [Nat.pow_add, ← pow32, ← Nat.div_div_eq_div_mul, natL_div L hD, List.drop_eq_nil_of_le (by omega)]
      exact Nat.zero_div _
    rw [e]
    exact ⟨[], none, 0, rfl, Nat.zero_le _, Nat.zero_le _, fun _ hi => absurd hi (Nat.not_lt_zero _), fun _ hd => absurd hd List.not_mem_nil, fun h => absurd rfl h, rfl, fun p hp => by cases hp⟩
theorem put_anyF (z : Nat) (neg neg0 : Bool) (a a0 : Option Addr) (n0 cap cap0 : Nat) (L : List Nat) (w : World) (hz : w.heap[z]? = some (.cells #[.bool neg0, .slice a0 n0 cap0] 90)) (hm : MagAt w a L) (hD : DigL L) (hcap : L.length ≤ cap) (hn : L.length ≤ 1099511627776) (B : Nat) (hF : ∀ p, a = some p → B ≤ p.block) :
    Calls Tryz.prog 119 #[.pointer (some ⟨z, 0, none⟩), .bool neg, .slice a L.length cap] w fun r w' => r = .returned (.pointer (some ⟨z, 0, none⟩)) ∧ ∃ L', natL L' = natL L ∧ L'.length ≤ L.length ∧ BigAtF B w' z (neg && decide (natL L ≠ 0)) L' ∧ But z w w' := by
  obtain ⟨c0, c1, hf, hlt⟩ := int_cells hz
  -- how many words are left is a number of the list's own
  obtain ⟨k, hk, hv, he⟩ : ∃ k, k ≤ L.length ∧ natL (L.take k) = natL L ∧ EndOk L k := by
    have : ∀ j, j ≤ L.length → natL (L.take j) = natL L → ∃ k, k ≤ L.length ∧ natL (L.take k) = natL L ∧ EndOk L k := by
      intro j
      induction j with
      | zero => exact fun h1 h2 => ⟨0, h1, h2, fun c => absurd rfl c⟩
      | succ j ih =>
        intro h1 h2
        by_cases hd : L.getD j 0 = 0
        · exact ih (by omega) ((natL_take_zero L j (by omega) hd).symm.trans h2)
        · exact ⟨j + 1, h1, h2, fun _ => hd⟩
    exact this L.length (Nat.le_refl _) (by rw [List.take_length])
  have hcut : Calls Tryz.prog 156 #[.slice a L.length cap] w fun r w' => r = .returned (.slice a k cap) ∧ w' = w := by
    refine (bcut_any L a cap w hm hcap hn).mono ?_
    rintro r w' ⟨⟨k', hk', rfl, hv', he'⟩, rfl⟩
    exact ⟨by rw [end_unique L k' k hD hk' hk hv' hv he' he], rfl⟩
  obtain ⟨hcan, hlen⟩ := can_take L k hk he
  refine (put_core z k neg a L.length cap w _ _ c0 c1 hf hcut).mono ?_
  rintro r w' ⟨rfl, rfl⟩
  have hbut : But z w ((w.setCell ⟨z, 1, none⟩ (.slice a k cap)).setCell ⟨z, 0, none⟩ (.bool (neg && decide (0 < k)))) := ((But.refl z w).setCell 1 _).setCell 0 _
  refine ⟨rfl, L.take k, hv, by rw [hlen]; exact hk, ⟨a, cap, ?_, by rw [hlen]; omega, (hm.take k).but hbut (fun b off e h0 => ?_), hD.take k, hcan, fun h0 => ?_, hF⟩, hbut⟩
  · have hbo : (neg && decide (natL L ≠ 0)) = (neg && decide (0 < k)) := by
      congr 1
      rw [decide_eq_decide, ← hv]
      rw [Ne, natL_zero _ hcan, ← List.length_eq_zero_iff, hlen]
      omega
    rw [hlen, hbo]
    simp [World.setCell, Array.getElem?_modify, hz]
  · obtain ⟨b', off', e', hne⟩ := mag_ne hz (hm.take k) h0
    rw [e] at e'
    cases e'
    exact hne
  · have : natL L = 0 := by rw [← hv, h0]; rfl
    rw [this]
    simp
theorem put_isF (z : Nat) (neg : Bool) (v bound : Nat) (w w1 : World) (L' : List Nat) (a' : Option Addr) (cap' : Nat) (hz : ZOk z w w1) (hM : MagIsF w.heap.size v bound L' a' cap' w1) (hbd : bound ≤ 1099511627776) :
    Calls Tryz.prog 119 #[.pointer (some ⟨z, 0, none⟩), .bool neg, .slice a' L'.length cap'] w1 fun r w' => r = .returned (.pointer (some ⟨z, 0, none⟩)) ∧ ∃ L', natL L' = v ∧ L'.length ≤ bound ∧ BigAtF w.heap.size w' z (neg && decide (v ≠ 0)) L' ∧ But z w w' := by
  obtain ⟨h1, h2, h3, h4, h5, h6, h7⟩ := hM
  obtain ⟨hb, neg0, a0, n0, cap0, ho⟩ := hz
  have := put_anyF z neg neg0 a' a0 n0 cap' cap0 L' w1 ho h3 h4 h1 (by omega) w.heap.size h7
  refine this.mono ?_
  rintro r w' ⟨rfl, M, e1, e2, e3, e4⟩
  exact ⟨rfl, M, e1.trans h6, by omega, by rw [← h6]; exact e3, hb.trans e4⟩
set_option maxHeartbeats 1000000 in
theorem Rsh_posF (z x : Nat) (q s : Nat) (L : List Nat) (w : World) (hz : ZOk z w w) (hx : BigAt w x false L) (hs : s < 32) (hq : q ≤ 1000000) (hn : L.length ≤ 1000000) :
    Calls Tryz.prog 72 #[.pointer (some ⟨z, 0, none⟩), .pointer (some ⟨x, 0, none⟩), .int .u64 ((32 * q + s : Nat) : Int)] w fun r w' => r = .returned (.pointer (some ⟨z, 0, none⟩)) ∧ PutIsF w.heap.size z false (natL L / 2 ^ (32 * q + s)) L.length w w' := by
  obtain ⟨a, cap, ho, hcap, hm, hd, hc, hneg⟩ := hx
  obtain ⟨c0, c1, hf, hlt⟩ := int_cells ho
  have HL : Hid (Calls Tryz.prog 120 #[.slice a L.length cap, .int .u64 ((32 * q + s : Nat) : Int)] w fun r w1 => ∃ L' a' cap', r = .returned (.slice a' L'.length cap') ∧ Hid (MagIsF w.heap.size (natL L / 2 ^ (32 * q + s)) L.length L' a' cap' w1) ∧ Hid (ZOk z w w1)) := by
    refine (right_anyF L a cap q s w hm hs hq hn hd).mono ?_
    rintro r w1 ⟨⟨L', a', cap', hr, h1⟩, hb1⟩
    exact ⟨L', a', cap', hr, h1, ZOk.below hz hb1⟩
  obtain ⟨v, hv⟩ : ∃ v, Hid (natL L / 2 ^ (32 * q + s) = v) := ⟨_, rfl⟩
  obtain ⟨n, hnl⟩ : ∃ n, Hid (L.length = n) := ⟨_, rfl⟩
  rw [hv.out] at HL ⊢
  rw [hnl.out] at HL c1 hn ⊢
  have HP : Hid (∀ w1 L' a' cap', Hid (ZOk z w w1) → Hid (MagIsF w.heap.size v n L' a' cap' w1) → Calls Tryz.prog 119 #[.pointer (some ⟨z, 0, none⟩), .bool false, .slice a' L'.length cap'] w1 fun r w' => r = .returned (.pointer (some ⟨z, 0, none⟩)) ∧ Hid (PutIsF w.heap.size z false v n w w')) := by
    intro w1 L' a' cap' h1 h2
    exact put_isF z false v n w w1 L' a' cap' h1.out h2.out (by omega)
  obtain ⟨N, hN⟩ : ∃ N : Int, Hid (((32 * q + s : Nat) : Int) = N) := ⟨_, rfl⟩
  rw [hN.out] at HL ⊢
  clear hz hs hq hn hm hd hc hneg ho hcap hf
  go_enter Tryz.func72, Tryz.ntmps72
  go_wp2_with fail
  refine HL.out.mono ?_
  rintro r w1 ⟨L', a', cap', rfl, HM, HZ1⟩
  go_wp2_with fail
  refine (HP.out _ _ _ _ HZ1 HM).mono ?_
  rintro r w2 ⟨rfl, HE⟩
  go_wp2
  go_ret
  exact ⟨rfl, HE.out⟩
/-- A number not below 0 at a block, its words from block B on. -/
def NatF (B : Nat) (w : World) (x v bd : Nat) : Prop := ∃ L, natL L = v ∧ L.length ≤ bd ∧ BigAtF B w x false L
theorem NatF.num {B x v bd : Nat} {w : World} (h : NatF B w x v bd) : NumAt w x (v : Int) bd := by
  obtain ⟨L, h1, h2, a, cap, k1, k2, k3, k4, k5, k6, k7⟩ := h
  exact ⟨false, L, by unfold intL; rw [if_neg (by decide), h1], h2, a, cap, k1, k2, k3, k4, k5, k6⟩
theorem NRshF (x v n bd : Nat) (w : World) (hx : NumAt w x (v : Int) bd) (hb : bd ≤ 900000) (hn : n ≤ 30000000) :
    Calls Tryz.prog 72 #[.pointer (some ⟨x, 0, none⟩), .pointer (some ⟨x, 0, none⟩), .int .u64 n] w fun r w' => r = .returned (.pointer (some ⟨x, 0, none⟩)) ∧ NatF w.heap.size w' x (v / 2 ^ n) bd ∧ But x w w' := by
  have hz : ZOk x w w := hx.zok
  obtain ⟨L, h1, hL, hB⟩ := num_pos hx
  have := Rsh_posF x x (n / 32) (n % 32) L w hz hB (Nat.mod_lt _ (by decide)) (by omega) (by omega)
  rw [show 32 * (n / 32) + n % 32 = n by omega, h1] at this
  refine this.mono ?_
  rintro r w' ⟨rfl, L', e1, e2, e3, e4⟩
  exact ⟨rfl, ⟨L', e1, by omega, e3⟩, e4⟩
end Go.Proofs.YtehnkgonhgjeiaaGreatDoor
