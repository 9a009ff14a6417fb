
/- The document's Near, to the nearest. -/
import Derived.Test.YtijadahpddmhjaaGreatDoorP40
namespace Go.Proofs.YtijadahpddmhjaaGreatDoor
open Go.RowKit Go.IntWalk

/-- v over 2^n, the nearest whole number, of two the even one. -/
def nearZ (v : Int) (n : Nat) : Int :=
  if v % ((2 ^ n : Nat) : Int) = 0 then v / ((2 ^ n : Nat) : Int)
  else if ((2 ^ n : Nat) : Int) < 2 * (v % ((2 ^ n : Nat) : Int)) ∨ (((2 ^ n : Nat) : Int) = 2 * (v % ((2 ^ n : Nat) : Int)) ∧ v / ((2 ^ n : Nat) : Int) % 2 = 1) then v / ((2 ^ n : Nat) : Int) + 1 else v / ((2 ^ n : Nat) : Int)
theorem zcmp_gt {a b : Int} (h : b < a) : cmpZ a b = 1 := by unfold cmpZ; split <;> (try split) <;> omega
theorem zcmp_eq {a b : Int} (h : a = b) : cmpZ a b = 0 := by unfold cmpZ; split <;> (try split) <;> omega
theorem zcmp_lt {a b : Int} (h : a < b) : cmpZ a b = -1 := by unfold cmpZ; split <;> (try split) <;> omega
def IntZ : Obj := .cells #[.bool false, .slice none 0 0] 63
theorem zok_two (w : World) : ZOk (w.heap.size + 1) ((w.alloc IntZ).alloc IntZ) ((w.alloc IntZ).alloc IntZ) := by
  have := fresh_zok (w.alloc IntZ)
  rw [show (w.alloc IntZ).heap.size = w.heap.size + 1 by simp] at this
  exact this
theorem zok_old {z : Nat} {w w' : World} (h : w.heap[z]? = some IntZ) (hb : Below w.heap.size w w') : ZOk z w' w' := ⟨But.refl _ _, false, none, 0, 0, by rw [hb.block z (Array.getElem?_eq_some_iff.1 h).1]; exact h⟩
set_option maxRecDepth 4000 in
set_option maxHeartbeats 2000000 in
theorem xNear_up (p bd k : Nat) (v : Int) (w : World) (hx : NumAt w p v bd) (hbd : bd ≤ 700000) (hk : k ≤ 1000000) :
    Calls Tryz.prog 89 #[.pointer (some ⟨p, 0, none⟩), .int .i64 (-(k : Int)), .int .i64 0] w fun r w' => ∃ q, r = .returned (.pointer (some ⟨q, 0, none⟩)) ∧ NumAt w' q (v * 2 ^ k) (k / 32 + bd + 1) ∧ Below w.heap.size w w' := by
  have HX := hid (hx.below ((Below.refl w.heap.size w).alloc (Nat.le_refl _) IntZ))
  have hle : -(k : Int) ≤ 0 := by omega
  have hw1 : IntKind.i64.wrap (k : Int) = (k : Int) := by rw [IntWalk.i64_in _ (by omega)]
  have hw2 : IntKind.u64.wrap (k : Int) = (k : Int) := by rw [IntKind.wrap_u64]; omega
  clear hx
  unfold IntZ at HX
  go_enter Tryz.func89, Tryz.ntmps89
  go_wp2_with fail
  refine (NLsh w.heap.size p v k bd _ (fresh_zok w) HX.out (by omega) (by omega)).mono ?_
  rintro r w1 ⟨rfl, hn1, hb1⟩
  have HN1 := hid hn1
  have HB1 := hid (fresh_below hb1)
  clear hn1 hb1
  go_wp2
  go_ret
  exact ⟨_, rfl, HN1.out, HB1.out⟩
set_option maxRecDepth 4000 in
set_option maxHeartbeats 4000000 in
theorem xNear_down (p bd n : Nat) (v : Int) (w : World) (hx : NumAt w p v bd) (hbd : bd ≤ 300000) (hn1 : 1 ≤ n) (hn2 : n ≤ 1000000) :
    Calls Tryz.prog 89 #[.pointer (some ⟨p, 0, none⟩), .int .i64 (n : Int), .int .i64 0] w fun r w' => ∃ q, r = .returned (.pointer (some ⟨q, 0, none⟩)) ∧ NumAt w' q (nearZ v n) (bd + 40000) ∧ Below w.heap.size w w' := by
  have HX := hid hx
  obtain ⟨P, hP⟩ : ∃ P : Nat, Hid ((2 : Nat) ^ n = P) := ⟨_, rfl⟩
  obtain ⟨L, hL⟩ : ∃ L : Int, Hid (v / (P : Int) = L) := ⟨_, rfl⟩
  obtain ⟨R, hR⟩ : ∃ R : Int, Hid (v - L * 2 ^ n = R) := ⟨_, rfl⟩
  obtain ⟨H, hH⟩ : ∃ H : Int, Hid (((1 : Nat) : Int) * 2 ^ (n - 1) = H) := ⟨_, rfl⟩
  have HPP : Hid (0 < P) := by show 0 < P; rw [← hP.out]; exact Nat.two_pow_pos n
  have HRM : Hid (v % (P : Int) = R) := by
    have h1 := Int.emod_add_mul_ediv v (P : Int)
    have e : (2 : Int) ^ n = (P : Int) := by rw [← hP.out, Int.natCast_pow]; rfl
    show v % (P : Int) = R
    rw [← hR.out, e, ← hL.out, Int.mul_comm]
    omega
  have HHF : Hid ((P : Int) = 2 * H) := by
    show (P : Int) = 2 * H
    rw [← hH.out, ← hP.out, Int.natCast_pow]
    obtain ⟨m, rfl⟩ : ∃ m, n = m + 1 := ⟨n - 1, by omega⟩
    rw [Nat.add_sub_cancel, Int.pow_succ, show ((1 : Nat) : Int) = 1 from rfl, Int.one_mul, Int.mul_comm]
    rfl
  have HNZ : Hid (nearZ v n = if R = 0 then L else if (P : Int) < 2 * R ∨ ((P : Int) = 2 * R ∧ L % 2 = 1) then L + 1 else L) := by
    show nearZ v n = _
    unfold nearZ
    rw [hP.out, HRM.out, hL.out]
  have hgt : ¬ (n : Int) ≤ 0 := by omega
  have hw1 : IntKind.u64.wrap (n : Int) = (n : Int) := by rw [IntKind.wrap_u64]; omega
  have hw2 : IntKind.i64.wrap ((n : Int) - 1) = ((n - 1 : Nat) : Int) := by rw [IntWalk.i64_in _ (by omega)]; omega
  have hw2' : (n : Int) - 1 = ((n - 1 : Nat) : Int) := by omega
  have hw3 : IntKind.u64.wrap ((n - 1 : Nat) : Int) = ((n - 1 : Nat) : Int) := by rw [IntKind.wrap_u64]; omega
  have hw4 : wrap64 ((n - 1 : Nat) : Int) = ((n - 1 : Nat) : Int) := by unfold wrap64; omega
  have hw5 : wrap64 (n : Int) = (n : Int) := by unfold wrap64; omega
  obtain ⟨n1, hn1'⟩ : ∃ n1, Hid (n - 1 = n1) := ⟨_, rfl⟩
  have HN12 : Hid (n1 ≤ 1000000) := by have := hn1'.out; show n1 ≤ _; omega
  rw [hn1'.out] at hw2 hw2' hw3 hw4 hH
  have HN2 := hid hn2
  have HBD := hid hbd
  have hn0 : 0 < n := hn1
  clear hx hn1 hn2 hbd
  go_enter Tryz.func89, Tryz.ntmps89
  go_wp2_with fail
  refine (NRshZ w.heap.size p n bd v _ (fresh_zok w) (HX.out.below ((Below.refl w.heap.size w).alloc (Nat.le_refl _) _)) (by have := HBD.out; omega) (by have := HN2.out; omega)).mono ?_
  rw [hP.out, hL.out]
  rintro r w1 ⟨rfl, hq1, hb1⟩
  have HB1 := hid (fresh_below hb1)
  have HL1 := hid hq1
  have HX1 := hid (HX.out.below HB1.out)
  have HS1 : Hid (w.heap.size < w1.heap.size) := by have := hb1.size; simp at this; show _ < _; omega
  clear hq1 hb1
  -- low * 2^n
  have hal1 : Below w1.heap.size w1 ((w1.alloc IntZ).alloc IntZ) := ((Below.refl _ _).alloc (Nat.le_refl _) _).alloc (by simp) _
  have HZ1 := hid (zok_two w1)
  have HZA : Hid (((w1.alloc IntZ).alloc IntZ).heap[w1.heap.size]? = some IntZ) := (two_blk w1 IntZ IntZ).1
  have HSA : Hid (((w1.alloc IntZ).alloc IntZ).heap.size = w1.heap.size + 2) := by show ((w1.alloc IntZ).alloc IntZ).heap.size = _; simp
  have HLA := hid (HL1.out.below hal1)
  have HAL := hid hal1
  clear hal1
  unfold IntZ at HZ1 HZA HSA HLA HAL
  obtain ⟨W1, hW1⟩ : ∃ V, Hid ((w1.alloc (.cells #[.bool false, .slice none 0 0] 63)).alloc (.cells #[.bool false, .slice none 0 0] 63) = V) := ⟨_, rfl⟩
  rw [hW1.out] at HZ1 HZA HSA HLA HAL
  go_wp2_with fail
  rw [hW1.out]
  refine (NLsh (w1.heap.size + 1) w.heap.size L n (bd + 1) _ HZ1.out HLA.out (by have := HBD.out; omega) (by have := HN2.out; omega)).mono ?_
  rintro r w2 ⟨rfl, hq2, hb2⟩
  have HB2 : Hid (Below w1.heap.size w1 w2) := HAL.out.trans (hb2.below (by have := HSA.out; omega) (by omega))
  have HZ2 : Hid (ZOk w1.heap.size w2 w2) := ⟨But.refl _ _, false, none, 0, 0, by rw [hb2.block _ (by have := HSA.out; omega) (by omega)]; exact HZA.out⟩
  have HQ2 := hid hq2
  have HX2 := hid (HX1.out.below HB2.out)
  have HL2 := hid (HL1.out.below HB2.out)
  have HPN : Hid (p < w1.heap.size) := by obtain ⟨_, _, _, _, a, cap, ho, _⟩ := HX1.out; exact (Array.getElem?_eq_some_iff.1 ho).1
  clear hq2 hb2
  go_wp2_with fail
  refine (NSub w1.heap.size p (w1.heap.size + 1) v (L * 2 ^ n) bd _ _ HZ2.out (by have := HPN.out; omega) (by omega) HX2.out HQ2.out (by have := HBD.out; omega) (by have := HBD.out; have := HN2.out; omega)).mono ?_
  rw [hR.out]
  rintro r w3 ⟨rfl, hq3, hb3⟩
  have HB3 : Hid (Below w1.heap.size w1 w3) := HB2.out.trans (hb3.below HB2.out.size (Nat.le_refl _))
  have HR3 := hid hq3
  have HL3 := hid (HL1.out.below HB3.out)
  have HBW3 : Hid (Below w.heap.size w w3) := HB1.out.trans (HB3.out.mono HB1.out.size)
  clear hq3 hb3
  by_cases c0 : R = 0
  · have hs0 : sgnZ R = 0 := by rw [c0]; rfl
    have HF : Hid (NumAt w3 w.heap.size (nearZ v n) (bd + 40000)) := by rw [HNZ.out, if_pos c0]; exact HL3.out.more (by omega)
    go_wp2_with fail
    refine (NSign w1.heap.size R _ _ HR3.out).mono ?_
    rw [hs0]
    rintro r w4 ⟨rfl, rfl⟩
    go_wp2
    go_ret
    exact ⟨_, rfl, HF.out, HBW3.out⟩
  · have hs0 : (sgnZ R == 0) = false := by
      have : sgnZ R ≠ 0 := by unfold sgnZ; split <;> (try split) <;> omega
      simpa using this
    obtain ⟨sg, hsg⟩ : ∃ s, Hid (sgnZ R = s) := ⟨_, rfl⟩
    rw [hsg.out] at hs0
    have HR0 := hid c0
    clear c0
    go_wp2_with fail
    refine (NSign w1.heap.size R _ _ HR3.out).mono ?_
    rw [hsg.out]
    rintro r w4 ⟨rfl, rfl⟩
    -- high
    have hal4 : Below w4.heap.size w4 (w4.alloc IntZ) := (Below.refl _ _).alloc (Nat.le_refl _) _
    have HZ4 : Hid ((w4.alloc IntZ).heap[w4.heap.size]? = some IntZ) := new_blk _ _ _ rfl
    have HAL4 := hid hal4
    clear hal4
    unfold IntZ at HZ4 HAL4
    go_wp2_with fail
    refine (NNew 1 _ (by decide)).mono ?_
    rintro r w5 ⟨rfl, hq5, hb5⟩
    have HZ5 := hid (zok_old HZ4.out hb5)
    have HB5 : Hid (Below w4.heap.size w4 w5) := HAL4.out.trans (hb5.mono (by simp))
    have HQ5 := hid hq5
    have HL5 := hid (HL3.out.below HB5.out)
    have HR5 := hid (HR3.out.below HB5.out)
    have HLN : Hid (w.heap.size < w4.heap.size) := by have := HB3.out.size; have := HS1.out; show _ < _; omega
    have hs5 : (w4.alloc (.cells #[.bool false, .slice none 0 0] 63)).heap.size = w4.heap.size + 1 := by simp
    rw [hs5] at HQ5
    clear hq5 hb5 hs5
    go_wp2_with fail
    refine (NAdd w4.heap.size w.heap.size (w4.heap.size + 1) L ((1 : Nat) : Int) (bd + 1) 2 _ HZ5.out (Or.inr ⟨by have := HLN.out; omega, by omega⟩) HL5.out HQ5.out (by have := HBD.out; omega) (by decide)).mono ?_
    rintro r w6 ⟨rfl, hq6, hb6⟩
    have HB6 : Hid (Below w4.heap.size w4 w6) := HB5.out.trans (hb6.below HB5.out.size (Nat.le_refl _))
    have HG6 := hid hq6
    have HL6 := hid (HL3.out.below HB6.out)
    have HR6 := hid (HR3.out.below HB6.out)
    clear hq6 hb6
    -- half
    have hal6 : Below w6.heap.size w6 (w6.alloc IntZ) := (Below.refl _ _).alloc (Nat.le_refl _) _
    have HZ6 : Hid ((w6.alloc IntZ).heap[w6.heap.size]? = some IntZ) := new_blk _ _ _ rfl
    have HAL6 := hid hal6
    clear hal6
    unfold IntZ at HZ6 HAL6
    go_wp2_with fail
    refine (NNew 1 _ (by decide)).mono ?_
    rintro r w7 ⟨rfl, hq7, hb7⟩
    have HZ7 := hid (zok_old HZ6.out hb7)
    have HB7 : Hid (Below w6.heap.size w6 w7) := HAL6.out.trans (hb7.mono (by simp))
    have HQ7 := hid hq7
    rw [show (w6.alloc (.cells #[.bool false, .slice none 0 0] 63)).heap.size = w6.heap.size + 1 by simp] at HQ7
    clear hq7 hb7
    go_wp2_with fail
    refine (NLsh w6.heap.size (w6.heap.size + 1) ((1 : Nat) : Int) n1 2 _ HZ7.out HQ7.out (by decide) (by have := HN12.out; omega)).mono ?_
    rw [hH.out]
    rintro r w8 ⟨rfl, hq8, hb8⟩
    have HB8 : Hid (Below w6.heap.size w6 w8) := HB7.out.trans (hb8.below HB7.out.size (Nat.le_refl _))
    have HQ8 := hid hq8
    have HR8 := hid (HR6.out.below HB8.out)
    clear hq8 hb8
    go_wp2_with fail
    refine (NCmp w1.heap.size w6.heap.size R H _ _ _ HR8.out HQ8.out (by have := HBD.out; have := HN2.out; omega) (by have := HN12.out; omega)).mono ?_
    rintro r w9 ⟨rfl, hb9⟩
    have HB9 : Hid (Below w6.heap.size w6 w9) := HB8.out.trans (hb9.mono HB8.out.size)
    have HL9 := hid (HL6.out.below HB9.out)
    have HG9 := hid (HG6.out.below HB9.out)
    have HBW9 : Hid (Below w.heap.size w w9) := by
      have h6 : Below w.heap.size w w6 := HBW3.out.trans (HB6.out.mono HBW3.out.size)
      exact h6.trans (HB9.out.mono h6.size)
    clear hb9
    rcases Int.lt_trichotomy R H with c | c | c
    · rw [zcmp_lt c]
      have HF : Hid (NumAt w9 w.heap.size (nearZ v n) (bd + 40000)) := by
        rw [HNZ.out, if_neg HR0.out, if_neg (by have := HHF.out; omega)]; exact HL9.out.more (by omega)
      clear c
      go_wp2
      go_ret
      exact ⟨_, rfl, HF.out, HBW9.out⟩
    · rw [zcmp_eq c]
      go_wp2_with fail
      refine (NBit0Z w.heap.size _ L _ HL9.out (by have := HBD.out; omega)).mono ?_
      rintro r w10 ⟨rfl, hb10⟩
      have HBW10 : Hid (Below w.heap.size w w10) := HBW9.out.trans (hb10.mono HBW9.out.size)
      have HL10 := hid (HL9.out.below hb10)
      have HG10 := hid (HG9.out.below hb10)
      clear hb10
      by_cases d : L % 2 = 1
      · have HF : Hid (NumAt w10 w4.heap.size (nearZ v n) (bd + 40000)) := by
          rw [HNZ.out, if_neg HR0.out, if_pos (Or.inr ⟨by have := HHF.out; omega, d⟩)]; exact HG10.out.more (by omega)
        rw [d]
        clear c d
        go_wp2
        go_ret
        exact ⟨_, rfl, HF.out, HBW10.out⟩
      · have HF : Hid (NumAt w10 w.heap.size (nearZ v n) (bd + 40000)) := by
          rw [HNZ.out, if_neg HR0.out, if_neg (by have := HHF.out; omega)]; exact HL10.out.more (by omega)
        have e : L % 2 = 0 := by omega
        rw [e]
        clear c d e
        go_wp2
        go_ret
        exact ⟨_, rfl, HF.out, HBW10.out⟩
    · rw [zcmp_gt c]
      have HF : Hid (NumAt w9 w4.heap.size (nearZ v n) (bd + 40000)) := by
        rw [HNZ.out, if_neg HR0.out, if_pos (Or.inl (by have := HHF.out; omega))]; exact HG9.out.more (by omega)
      clear c
      go_wp2
      go_ret
      exact ⟨_, rfl, HF.out, HBW9.out⟩
end Go.Proofs.YtijadahpddmhjaaGreatDoor
