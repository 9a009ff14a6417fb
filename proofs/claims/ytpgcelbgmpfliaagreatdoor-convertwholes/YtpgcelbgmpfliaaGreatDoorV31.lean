
/- What the document's put, Nought, Infinity, Greatest, over and Round do, in both formats. (Written by mkr2.py.) -/
import Derived.Test.YtpgcelbgmpfliaaGreatDoorV30
namespace Go.Proofs.YtpgcelbgmpfliaaGreatDoor
open Go.RowKit Go.IntWalk

theorem or_words' (a b k : Nat) (hb : b < 2 ^ k) (h : a * 2 ^ k < 18446744073709551616) (hb2 : b < 18446744073709551616) : bits .or .u64 ((a * 2 ^ k : Nat) : Int) (b : Int) = ((a * 2 ^ k + b : Nat) : Int) := by
  rw [u64_or_nat (a * 2 ^ k) b h hb2]
  congr 1
  rw [Nat.mul_comm]
  exact (Nat.two_pow_add_eq_or_of_lt hb a).symm
/-- What stands in the place of what is too great: greatest or infinite. -/
def overB (neg : Bool) (mode : Int) : Bool := decide (mode = 2) || (decide (mode = 3) && neg) || (decide (mode = 4) && !neg)
theorem overB_grows (neg : Bool) (mode : Int) (h1 : 0 ≤ mode) (h2 : mode ≤ 4) : overB neg mode = !growsOf mode neg true 3 := by
  rcases (show mode = 0 ∨ mode = 1 ∨ mode = 2 ∨ mode = 3 ∨ mode = 4 by omega) with rfl | rfl | rfl | rfl | rfl <;> cases neg <;> rfl
theorem fcells {w W : World} {T : TypeId} {a b c d : Value} (h : Below (w.heap.size + 1) (w.alloc (.cells #[a, b, c, d] T)) W) : W.cell? ⟨w.heap.size, 0, none⟩ = some a ∧ W.cell? ⟨w.heap.size, 1, none⟩ = some b ∧ W.cell? ⟨w.heap.size, 2, none⟩ = some c ∧ W.cell? ⟨w.heap.size, 3, none⟩ = some d := by
  refine ⟨?_, ?_, ?_, ?_⟩ <;> (rw [h.cell (p := ⟨w.heap.size, _, none⟩) (Nat.lt_succ_self _)]; simp [go_sem])
theorem ret_uf {a a' b b' : Int} (h1 : a = a') (h2 : b = b') : Ending.returned (.tuple #[.int .u64 a, .int .i64 b]) = .returned (.tuple #[.int .u64 a', .int .i64 b']) := by rw [h1, h2]
theorem quiet_len (Q S bd bl : Nat) (hb : bd ≤ 900000) (e : bitLen S = bl) : Hid (∀ W, NumAt W Q S bd → ∀ n, Calls Tryz.prog 104 #[.pointer (some ⟨Q, 0, none⟩)] (W.drewN n) fun r w' => r = .returned (.int .i64 bl) ∧ ∃ m, w' = (W.drewN n).drewN m) := fun W h n => by
  have := NBitLen Q S bd (W.drewN n) (h.draw n) hb
  rw [Int.natAbs_natCast, e] at this
  exact this
theorem NumAt.drew {w : World} {p : Nat} {v : Int} {bd : Nat} (h : NumAt w p v bd) : NumAt w.drew p v bd := h.below (Below.refl _ _).drew
theorem bl_B {w W : World} {o : Obj} (h : Below (w.heap.size + 1) (w.alloc o) W) : Below w.heap.size w W := (al_below w o).trans (h.mono (Nat.le_succ _))
theorem fB {w W : World} {o : Obj} (h : Below (w.alloc o).heap.size (w.alloc o) W) : Below (w.heap.size + 1) (w.alloc o) W := h.mono (by simp)
theorem fC {B : Nat} {A W W' : World} (h : Below B A W) (k : Below W.heap.size W W') (hB : B ≤ W.heap.size) : Below B A W' := h.trans (k.mono hB)
theorem and_mask (S k : Nat) (hS : S < 18446744073709551616) (hk : k ≤ 63) : bits .and .u64 (S : Int) ((2 ^ k - 1 : Nat) : Int) = ((S % 2 ^ k : Nat) : Int) := by
  have h1 : 2 ^ k ≤ 2 ^ 63 := Nat.pow_le_pow_right (by decide) hk
  have h2 : (2 : Nat) ^ 63 = 9223372036854775808 := by decide
  rw [u64_and_nat S (2 ^ k - 1) hS (by omega), Nat.and_two_pow_sub_one_eq_mod]
theorem quiet_of2 {P : Program} {f : FuncId} {args : Array Value} {w : World} {a n : Nat} {v : Value}
    (h : Calls P f args (w.drewN (a + n)) fun e w' => e = .returned v ∧ ∃ m, w' = (w.drewN (a + n)).drewN m) : Calls P f args (w.drewN (a + n)) fun e w'' => e = .returned v ∧ ∃ k, w'' = w.drewN (a + k) :=
  h.mono fun _ _ ⟨he, m, hm⟩ => ⟨he, n + m, by rw [hm, World.drewN_drewN, Nat.add_assoc]⟩
theorem put64_w (X f : Nat) (hX : X < 2048) (hf : f < 4503599627370496) : bits .or .u64 (IntKind.u64.wrap (IntKind.u64.wrap (X : Int) * 4503599627370496)) (f : Int) = (packN X f : Int) := by
  have e1 : IntKind.u64.wrap (IntKind.u64.wrap (X : Int) * 4503599627370496) = ((X * 2 ^ 52 : Nat) : Int) := by
    rw [IntKind.wrap_u64, IntKind.wrap_u64]; simp only [Nat.reducePow]; omega
  rw [e1, or_words' X f 52 (by simpa using hf) (by simp only [Nat.reducePow]; omega) (by omega)]
  rfl
theorem put64_s (X f : Nat) (hX : X < 2048) (hf : f < 4503599627370496) : bits .or .u64 (packN X f : Int) 9223372036854775808 = (signN true (packN X f) : Int) := by
  have hp : packN X f < 9223372036854775808 := by unfold packN; omega
  have hc : (9223372036854775808 : Int) = ((9223372036854775808 : Nat) : Int) := rfl
  rw [hc, u64_or_nat (packN X f) 9223372036854775808 (by omega) (by omega)]
  congr 1
  rw [Nat.or_comm]
  have := Nat.two_pow_add_eq_or_of_lt (i := 63) (b := packN X f) (by simpa using hp) 1
  simp only [Nat.reducePow, Nat.mul_one] at this
  rw [← this]
  unfold signN
  rw [if_pos rfl]
  omega
set_option maxHeartbeats 400000 in
theorem put64_any (neg : Bool) (X f : Nat) (w : World) (hX : X < 2048) (hf : f < 4503599627370496) :
    Calls Tryz.prog 103 #[.agg #[.int .i64 53, .int .i64 (-1022), .int .i64 1023, .int .i64 11], .bool neg, .int .i64 X, .int .u64 f] w fun r w' => r = .returned (.int .u64 (signN neg (packN X f))) ∧ ∃ T, w' = w.alloc (.cells #[.int .i64 53, .int .i64 (-1022), .int .i64 1023, .int .i64 11] T) := by
  have hw := put64_w X f hX hf
  have hs := put64_s X f hX hf
  obtain ⟨p, hp⟩ : ∃ p, Hid (packN X f = p) := ⟨_, rfl⟩
  rw [hp.out] at hw hs ⊢
  have hf' : signN false p = p := by unfold signN; rw [if_neg (by decide)]
  clear hX hf
  cases neg
  · rw [hf']
    clear hs
    go_enter Tryz.func103, Tryz.ntmps103
    go_wp2
    go_ret
    exact ⟨rfl, _, rfl⟩
  · obtain ⟨z, hz⟩ : ∃ z, Hid (signN true p = z) := ⟨_, rfl⟩
    rw [hz.out] at hs ⊢
    go_enter Tryz.func103, Tryz.ntmps103
    go_wp2
    go_ret
    exact ⟨rfl, _, rfl⟩
set_option maxHeartbeats 400000 in
theorem Nought64_any (neg : Bool) (w : World) :
    Calls Tryz.prog 59 #[.agg #[.int .i64 53, .int .i64 (-1022), .int .i64 1023, .int .i64 11], .bool neg] w fun r w' => r = .returned (.int .u64 (signN neg 0)) ∧ Below w.heap.size w w' := by
  go_enter Tryz.func59, Tryz.ntmps59
  go_wp2_with fail
  refine (put64_any neg 0 0 _ (by decide) (by decide)).mono ?_
  rintro r w1 ⟨rfl, T, rfl⟩
  go_wp2
  go_ret
  exact ⟨rfl, bl_al (bl_al (Below.refl _ _) _) _⟩
set_option maxHeartbeats 400000 in
theorem Infinity64_any (neg : Bool) (w : World) :
    Calls Tryz.prog 99 #[.agg #[.int .i64 53, .int .i64 (-1022), .int .i64 1023, .int .i64 11], .bool neg] w fun r w' => r = .returned (.int .u64 (signN neg 9218868437227405312)) ∧ Below w.heap.size w w' := by
  go_enter Tryz.func99, Tryz.ntmps99
  go_wp2_with fail
  refine (put64_any neg 2047 0 _ (by decide) (by decide)).mono ?_
  rintro r w1 ⟨rfl, T, rfl⟩
  go_wp2
  go_ret
  exact ⟨rfl, bl_al (bl_al (Below.refl _ _) _) _⟩
set_option maxHeartbeats 400000 in
theorem Greatest64_any (neg : Bool) (w : World) :
    Calls Tryz.prog 141 #[.agg #[.int .i64 53, .int .i64 (-1022), .int .i64 1023, .int .i64 11], .bool neg] w fun r w' => r = .returned (.int .u64 (signN neg (9218868437227405312 - 1))) ∧ Below w.heap.size w w' := by
  go_enter Tryz.func141, Tryz.ntmps141
  go_wp2_with fail
  refine (put64_any neg 2046 4503599627370495 _ (by decide) (by decide)).mono ?_
  rintro r w1 ⟨rfl, T, rfl⟩
  go_wp2
  go_ret
  exact ⟨rfl, bl_al (bl_al (Below.refl _ _) _) _⟩
def overM64 (neg : Bool) (mode : Int) : Nat := if overB neg mode = true then 9218868437227405312 - 1 else 9218868437227405312
set_option maxHeartbeats 400000 in
theorem over64_core (neg B : Bool) (mode : Int) (w : World) (hB : overB neg mode = B) :
    Calls Tryz.prog 107 #[.agg #[.int .i64 53, .int .i64 (-1022), .int .i64 1023, .int .i64 11], .bool neg, .int .i64 mode] w fun r w' => r = .returned (.int .u64 (signN neg (if B = true then 9218868437227405312 - 1 else 9218868437227405312))) ∧ Below w.heap.size w w' := by
  have HG := hid (fun w => Greatest64_any neg w)
  have HI := hid (fun w => Infinity64_any neg w)
  unfold overB at hB
  by_cases m2 : mode = 2
  · subst m2
    obtain rfl : true = B := by rw [← hB]; rfl
    clear hB
    go_enter Tryz.func107, Tryz.ntmps107
    go_wp2_with fail
    refine (HG.out _).mono ?_
    rintro r w1 ⟨rfl, hb⟩
    go_wp2
    go_ret
    exact ⟨rfl, bl_then (bl_al (Below.refl _ _) _) hb⟩
  · by_cases m3 : mode = 3
    · subst m3
      cases neg
      · obtain rfl : false = B := by rw [← hB]; rfl
        clear hB
        go_enter Tryz.func107, Tryz.ntmps107
        go_wp2_with fail
        refine (HI.out _).mono ?_
        rintro r w1 ⟨rfl, hb⟩
        go_wp2
        go_ret
        exact ⟨rfl, bl_then (bl_al (Below.refl _ _) _) hb⟩
      · obtain rfl : true = B := by rw [← hB]; rfl
        clear hB
        go_enter Tryz.func107, Tryz.ntmps107
        go_wp2_with fail
        refine (HG.out _).mono ?_
        rintro r w1 ⟨rfl, hb⟩
        go_wp2
        go_ret
        exact ⟨rfl, bl_then (bl_al (Below.refl _ _) _) hb⟩
    · by_cases m4 : mode = 4
      · subst m4
        cases neg
        · obtain rfl : true = B := by rw [← hB]; rfl
          clear hB
          go_enter Tryz.func107, Tryz.ntmps107
          go_wp2_with fail
          refine (HG.out _).mono ?_
          rintro r w1 ⟨rfl, hb⟩
          go_wp2
          go_ret
          exact ⟨rfl, bl_then (bl_al (Below.refl _ _) _) hb⟩
        · obtain rfl : false = B := by rw [← hB]; rfl
          clear hB
          go_enter Tryz.func107, Tryz.ntmps107
          go_wp2_with fail
          refine (HI.out _).mono ?_
          rintro r w1 ⟨rfl, hb⟩
          go_wp2
          go_ret
          exact ⟨rfl, bl_then (bl_al (Below.refl _ _) _) hb⟩
      · obtain rfl : false = B := by rw [← hB]; simp [m2, m3, m4]
        have b2 : (mode == 2) = false := by simpa using m2
        have b3 : (mode == 3) = false := by simpa using m3
        have b4 : (mode == 4) = false := by simpa using m4
        clear hB m2 m3 m4
        go_enter Tryz.func107, Tryz.ntmps107
        go_wp2_with fail
        refine (HI.out _).mono ?_
        rintro r w1 ⟨rfl, hb⟩
        go_wp2
        go_ret
        exact ⟨rfl, bl_then (bl_al (Below.refl _ _) _) hb⟩
theorem over64_any (neg : Bool) (mode : Int) (w : World) :
    Calls Tryz.prog 107 #[.agg #[.int .i64 53, .int .i64 (-1022), .int .i64 1023, .int .i64 11], .bool neg, .int .i64 mode] w fun r w' => r = .returned (.int .u64 (signN neg (overM64 neg mode))) ∧ Below w.heap.size w w' :=
  over64_core neg _ mode w rfl
theorem put32_w (X f : Nat) (hX : X < 256) (hf : f < 8388608) : bits .or .u64 (IntKind.u64.wrap (IntKind.u64.wrap (X : Int) * 8388608)) (f : Int) = (packN32 X f : Int) := by
  have e1 : IntKind.u64.wrap (IntKind.u64.wrap (X : Int) * 8388608) = ((X * 2 ^ 23 : Nat) : Int) := by
    rw [IntKind.wrap_u64, IntKind.wrap_u64]; simp only [Nat.reducePow]; omega
  rw [e1, or_words' X f 23 (by simpa using hf) (by simp only [Nat.reducePow]; omega) (by omega)]
  rfl
theorem put32_s (X f : Nat) (hX : X < 256) (hf : f < 8388608) : bits .or .u64 (packN32 X f : Int) 2147483648 = (signN32 true (packN32 X f) : Int) := by
  have hp : packN32 X f < 2147483648 := by unfold packN32; omega
  have hc : (2147483648 : Int) = ((2147483648 : Nat) : Int) := rfl
  rw [hc, u64_or_nat (packN32 X f) 2147483648 (by omega) (by omega)]
  congr 1
  rw [Nat.or_comm]
  have := Nat.two_pow_add_eq_or_of_lt (i := 31) (b := packN32 X f) (by simpa using hp) 1
  simp only [Nat.reducePow, Nat.mul_one] at this
  rw [← this]
  unfold signN32
  rw [if_pos rfl]
  omega
set_option maxHeartbeats 400000 in
theorem put32_any (neg : Bool) (X f : Nat) (w : World) (hX : X < 256) (hf : f < 8388608) :
    Calls Tryz.prog 103 #[.agg #[.int .i64 24, .int .i64 (-126), .int .i64 127, .int .i64 8], .bool neg, .int .i64 X, .int .u64 f] w fun r w' => r = .returned (.int .u64 (signN32 neg (packN32 X f))) ∧ ∃ T, w' = w.alloc (.cells #[.int .i64 24, .int .i64 (-126), .int .i64 127, .int .i64 8] T) := by
  have hw := put32_w X f hX hf
  have hs := put32_s X f hX hf
  obtain ⟨p, hp⟩ : ∃ p, Hid (packN32 X f = p) := ⟨_, rfl⟩
  rw [hp.out] at hw hs ⊢
  have hf' : signN32 false p = p := by unfold signN32; rw [if_neg (by decide)]
  clear hX hf
  cases neg
  · rw [hf']
    clear hs
    go_enter Tryz.func103, Tryz.ntmps103
    go_wp2
    go_ret
    exact ⟨rfl, _, rfl⟩
  · obtain ⟨z, hz⟩ : ∃ z, Hid (signN32 true p = z) := ⟨_, rfl⟩
    rw [hz.out] at hs ⊢
    go_enter Tryz.func103, Tryz.ntmps103
    go_wp2
    go_ret
    exact ⟨rfl, _, rfl⟩
set_option maxHeartbeats 400000 in
theorem Nought32_any (neg : Bool) (w : World) :
    Calls Tryz.prog 59 #[.agg #[.int .i64 24, .int .i64 (-126), .int .i64 127, .int .i64 8], .bool neg] w fun r w' => r = .returned (.int .u64 (signN32 neg 0)) ∧ Below w.heap.size w w' := by
  go_enter Tryz.func59, Tryz.ntmps59
  go_wp2_with fail
  refine (put32_any neg 0 0 _ (by decide) (by decide)).mono ?_
  rintro r w1 ⟨rfl, T, rfl⟩
  go_wp2
  go_ret
  exact ⟨rfl, bl_al (bl_al (Below.refl _ _) _) _⟩
set_option maxHeartbeats 400000 in
theorem Infinity32_any (neg : Bool) (w : World) :
    Calls Tryz.prog 99 #[.agg #[.int .i64 24, .int .i64 (-126), .int .i64 127, .int .i64 8], .bool neg] w fun r w' => r = .returned (.int .u64 (signN32 neg 2139095040)) ∧ Below w.heap.size w w' := by
  go_enter Tryz.func99, Tryz.ntmps99
  go_wp2_with fail
  refine (put32_any neg 255 0 _ (by decide) (by decide)).mono ?_
  rintro r w1 ⟨rfl, T, rfl⟩
  go_wp2
  go_ret
  exact ⟨rfl, bl_al (bl_al (Below.refl _ _) _) _⟩
set_option maxHeartbeats 400000 in
theorem Greatest32_any (neg : Bool) (w : World) :
    Calls Tryz.prog 141 #[.agg #[.int .i64 24, .int .i64 (-126), .int .i64 127, .int .i64 8], .bool neg] w fun r w' => r = .returned (.int .u64 (signN32 neg (2139095040 - 1))) ∧ Below w.heap.size w w' := by
  go_enter Tryz.func141, Tryz.ntmps141
  go_wp2_with fail
  refine (put32_any neg 254 8388607 _ (by decide) (by decide)).mono ?_
  rintro r w1 ⟨rfl, T, rfl⟩
  go_wp2
  go_ret
  exact ⟨rfl, bl_al (bl_al (Below.refl _ _) _) _⟩
def overM32 (neg : Bool) (mode : Int) : Nat := if overB neg mode = true then 2139095040 - 1 else 2139095040
set_option maxHeartbeats 400000 in
theorem over32_core (neg B : Bool) (mode : Int) (w : World) (hB : overB neg mode = B) :
    Calls Tryz.prog 107 #[.agg #[.int .i64 24, .int .i64 (-126), .int .i64 127, .int .i64 8], .bool neg, .int .i64 mode] w fun r w' => r = .returned (.int .u64 (signN32 neg (if B = true then 2139095040 - 1 else 2139095040))) ∧ Below w.heap.size w w' := by
  have HG := hid (fun w => Greatest32_any neg w)
  have HI := hid (fun w => Infinity32_any neg w)
  unfold overB at hB
  by_cases m2 : mode = 2
  · subst m2
    obtain rfl : true = B := by rw [← hB]; rfl
    clear hB
    go_enter Tryz.func107, Tryz.ntmps107
    go_wp2_with fail
    refine (HG.out _).mono ?_
    rintro r w1 ⟨rfl, hb⟩
    go_wp2
    go_ret
    exact ⟨rfl, bl_then (bl_al (Below.refl _ _) _) hb⟩
  · by_cases m3 : mode = 3
    · subst m3
      cases neg
      · obtain rfl : false = B := by rw [← hB]; rfl
        clear hB
        go_enter Tryz.func107, Tryz.ntmps107
        go_wp2_with fail
        refine (HI.out _).mono ?_
        rintro r w1 ⟨rfl, hb⟩
        go_wp2
        go_ret
        exact ⟨rfl, bl_then (bl_al (Below.refl _ _) _) hb⟩
      · obtain rfl : true = B := by rw [← hB]; rfl
        clear hB
        go_enter Tryz.func107, Tryz.ntmps107
        go_wp2_with fail
        refine (HG.out _).mono ?_
        rintro r w1 ⟨rfl, hb⟩
        go_wp2
        go_ret
        exact ⟨rfl, bl_then (bl_al (Below.refl _ _) _) hb⟩
    · by_cases m4 : mode = 4
      · subst m4
        cases neg
        · obtain rfl : true = B := by rw [← hB]; rfl
          clear hB
          go_enter Tryz.func107, Tryz.ntmps107
          go_wp2_with fail
          refine (HG.out _).mono ?_
          rintro r w1 ⟨rfl, hb⟩
          go_wp2
          go_ret
          exact ⟨rfl, bl_then (bl_al (Below.refl _ _) _) hb⟩
        · obtain rfl : false = B := by rw [← hB]; rfl
          clear hB
          go_enter Tryz.func107, Tryz.ntmps107
          go_wp2_with fail
          refine (HI.out _).mono ?_
          rintro r w1 ⟨rfl, hb⟩
          go_wp2
          go_ret
          exact ⟨rfl, bl_then (bl_al (Below.refl _ _) _) hb⟩
      · obtain rfl : false = B := by rw [← hB]; simp [m2, m3, m4]
        have b2 : (mode == 2) = false := by simpa using m2
        have b3 : (mode == 3) = false := by simpa using m3
        have b4 : (mode == 4) = false := by simpa using m4
        clear hB m2 m3 m4
        go_enter Tryz.func107, Tryz.ntmps107
        go_wp2_with fail
        refine (HI.out _).mono ?_
        rintro r w1 ⟨rfl, hb⟩
        go_wp2
        go_ret
        exact ⟨rfl, bl_then (bl_al (Below.refl _ _) _) hb⟩
theorem over32_any (neg : Bool) (mode : Int) (w : World) :
    Calls Tryz.prog 107 #[.agg #[.int .i64 24, .int .i64 (-126), .int .i64 127, .int .i64 8], .bool neg, .int .i64 mode] w fun r w' => r = .returned (.int .u64 (signN32 neg (overM32 neg mode))) ∧ Below w.heap.size w w' :=
  over32_core neg _ mode w rfl
end Go.Proofs.YtpgcelbgmpfliaaGreatDoor
