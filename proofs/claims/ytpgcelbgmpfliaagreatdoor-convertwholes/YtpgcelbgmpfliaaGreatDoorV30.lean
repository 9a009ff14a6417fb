
/- What the document's cut and goesUp do. -/
import Derived.Test.YtpgcelbgmpfliaaGreatDoorV29
import Derived.Test.YtpgcelbgmpfliaaGreatDoorV14
namespace Go.Proofs.YtpgcelbgmpfliaaGreatDoor
open Go.RowKit Go.IntWalk

theorem cutC_cmp (v s : Nat) (h : v % 2 ^ s ≠ 0) : cmpZ ((v % 2 ^ s : Nat) : Int) ((2 ^ (s - 1) : Nat) : Int) = cutC v s := by
  rw [cmpZ_pos]
  unfold cmpI cutC
  rw [if_neg h]
theorem rest_int (v s : Nat) : (v : Int) - ((v / 2 ^ s : Nat) : Int) * 2 ^ s = ((v % 2 ^ s : Nat) : Int) := by
  have := Nat.div_add_mod v (2 ^ s)
  have e : ((v / 2 ^ s : Nat) : Int) * 2 ^ s = ((2 ^ s * (v / 2 ^ s) : Nat) : Int) := by
    rw [Int.natCast_mul, Int.natCast_pow, Int.mul_comm]; rfl
  rw [e]
  omega
theorem one_pow (n : Nat) : ((1 : Nat) : Int) * 2 ^ n = ((2 ^ n : Nat) : Int) := by rw [Int.natCast_pow]; simp
theorem sgnZ_nat (n : Nat) : sgnZ (n : Int) = if n = 0 then 0 else 1 := by
  unfold sgnZ
  by_cases h : n = 0
  · rw [if_pos h, if_pos (by omega)]
  · rw [if_neg h, if_neg (by omega), if_neg (by omega)]
set_option maxHeartbeats 1000000 in
theorem rcut_any (M v s bd : Nat) (w : World) (hm : NumAt w M v bd) (hb : bd ≤ 100000) (hs1 : 1 ≤ s) (hs : s ≤ 1000000) :
    Calls Tryz.prog 100 #[.pointer (some ⟨M, 0, none⟩), .int .i64 s, .bool false] w fun r w' => ∃ q, r = .returned (.tuple #[.pointer (some ⟨q, 0, none⟩), .int .i64 (cutC v s)]) ∧ NumAt w' q ((v / 2 ^ s : Nat) : Int) bd ∧ w.heap.size ≤ q ∧ Below w.heap.size w w' := by
  have HM := hid hm
  have hws : IntKind.u64.wrap (s : Int) = (s : Int) := by rw [IntKind.wrap_u64]; omega
  obtain ⟨t, rfl⟩ : ∃ t, s = t + 1 := ⟨s - 1, by omega⟩
  have hs0 : (((t + 1 : Nat) : Int) == 0) = false := by simp; omega
  have hw1 : IntKind.i64.wrap (((t + 1 : Nat) : Int) - 1) = (t : Int) := by rw [IntWalk.i64_in _ (by omega)]; omega
  have hw2 : IntKind.u64.wrap (t : Int) = (t : Int) := by rw [IntKind.wrap_u64]; omega
  have hw3 : (((t + 1 : Nat) : Int) - 1) = (t : Int) := by omega
  have hw4 : IntKind.i64.wrap (t : Int) = (t : Int) := by rw [IntWalk.i64_in _ (by omega)]
  have HB := hid hb
  have HS := hid hs
  obtain ⟨S, hSS⟩ : ∃ S : Nat, Hid (t + 1 = S) := ⟨_, rfl⟩
  rw [hSS.out] at hws hs0 hw1 hw3 HS ⊢
  have HC := hid (cutC_cmp v S)
  have HT : Hid (S - 1 = t) := by have := hSS.out; show S - 1 = t; omega
  rw [HT.out] at HC
  obtain ⟨C, hC⟩ : ∃ C, Hid (cutC v S = C) := ⟨_, rfl⟩
  rw [hC.out] at HC ⊢
  have hmlt := hm.lt
  clear hm hb hs hs1
  go_enter Tryz.func100, Tryz.ntmps100
  go_wp2_with fail
  refine (NRsh w.heap.size M v S bd _ (fresh_zok w) (HM.out.al _) (by have := HB.out; omega) (by have := HS.out; omega)).mono ?_
  rintro r w1 ⟨rfl, h1, b1⟩
  have HQ1 := hid h1
  have HB1 : Hid (Below w.heap.size w w1) := fresh_below b1
  have HM1 := hid (HM.out.below HB1.out)
  have hq1 := h1.lt
  clear h1 b1
  go_wp2_with fail
  refine (NLsh (w1.heap.size + 1) w.heap.size ((v / 2 ^ S : Nat) : Int) S bd _ (fresh_zok' _ _ (by simp)) ((HQ1.out.al _).al _) (by have := HB.out; omega) (by have := HS.out; omega)).mono ?_
  rintro r w2 ⟨rfl, h2, b2⟩
  have HZ2 : Hid (NumAt w2 w1.heap.size 0 0) := ((fresh_num w1).al _).but b2 (by omega) (fresh_zok' _ _ (by simp))
  have HQ2 : Hid (NumAt w2 w.heap.size ((v / 2 ^ S : Nat) : Int) bd) := ((HQ1.out.al _).al _).but b2 (by omega) (fresh_zok' _ _ (by simp))
  have HM2 : Hid (NumAt w2 M v bd) := ((HM1.out.al _).al _).but b2 (by omega) (fresh_zok' _ _ (by simp))
  have HL2 := hid h2
  have HB2 : Hid (Below w.heap.size w w2) := (bl_al (bl_al HB1.out _) _).trans (b2.below (by simp; omega) (by omega))
  clear h2 b2
  go_wp2_with fail
  refine (NSub w1.heap.size M (w1.heap.size + 1) v _ bd _ w2 HZ2.out.zok (by omega) (by omega) HM2.out HL2.out (by have := HB.out; omega) (by have := HB.out; have := HS.out; omega)).mono ?_
  rintro r w3 ⟨rfl, h3, b3⟩
  rw [rest_int] at h3
  have HR3 := hid h3
  have HQ3 : Hid (NumAt w3 w.heap.size ((v / 2 ^ S : Nat) : Int) bd) := HQ2.out.but b3 (by omega) HZ2.out.zok
  have HB3 : Hid (Below w.heap.size w w3) := HB2.out.trans (b3.below HB2.out.size (by omega))
  clear h3 b3
  go_wp2_with fail
  refine (NSign w1.heap.size _ _ w3 HR3.out).mono ?_
  rintro r w4 ⟨rfl, rfl⟩
  rw [sgnZ_nat]
  by_cases hr : v % 2 ^ S = 0
  · have hc : C = -2 := by rw [← hC.out]; unfold cutC; rw [if_pos hr]
    rw [if_pos hr]
    subst hc
    clear hr
    go_wp2
    go_ret2
    exact ⟨_, rfl, HQ3.out, Nat.le_refl _, HB3.out⟩
  · rw [if_neg hr]
    have HC2 := hid (HC.out hr)
    clear hr
    go_wp2_with fail
    refine (NNew 1 _ (by decide)).mono ?_
    rintro r w5 ⟨rfl, h5, b5⟩
    have HO5 := hid h5
    have HZ5 : Hid (NumAt w5 w4.heap.size 0 0) := (fresh_num w4).below b5
    have HQ5 := hid ((HQ3.out.al _).below b5)
    have HR5 := hid ((HR3.out.al _).below b5)
    have HB5 : Hid (Below w.heap.size w w5) := bl_then (bl_al HB3.out _) b5
    have hsz : (w4.alloc (.cells #[.bool false, .slice none 0 0] 73)).heap.size = w4.heap.size + 1 := by simp
    rw [hsz] at HO5
    have hlt5 := HR3.out.lt
    clear h5 b5
    go_wp2_with fail
    refine (NLsh w4.heap.size (w4.heap.size + 1) ((1 : Nat) : Int) t 2 _ HZ5.out.zok HO5.out (by decide) (by have := HS.out; have := HT.out; omega)).mono ?_
    rintro r w6 ⟨rfl, h6, b6⟩
    rw [one_pow] at h6
    have HR6 := hid (HR5.out.but b6 (by omega) HZ5.out.zok)
    have HQ6 := hid (HQ5.out.but b6 (by omega) HZ5.out.zok)
    have HH6 := hid h6
    have HB6 : Hid (Below w.heap.size w w6) := HB5.out.trans (b6.below HB5.out.size (by have := HB3.out.size; omega))
    clear h6 b6
    go_wp2_with fail
    refine (NCmp w1.heap.size w4.heap.size _ _ _ _ w6 HR6.out HH6.out (by have := HB.out; have := HS.out; omega) (by have := HS.out; have := HT.out; omega)).mono ?_
    rintro r w7 ⟨rfl, b7⟩
    rw [HC2.out]
    have HQ7 := hid (HQ6.out.below b7)
    have HB7 := hid (bl_then HB6.out b7)
    clear b7
    by_cases hc0 : C = 0
    · subst hc0
      go_wp2
      go_ret2
      exact ⟨_, rfl, HQ7.out, Nat.le_refl _, HB7.out⟩
    · have hcb : (C == 0) = false := by simpa using hc0
      clear hc0
      go_wp2
      go_ret2
      exact ⟨_, rfl, HQ7.out, Nat.le_refl _, HB7.out⟩
set_option maxHeartbeats 1000000 in
theorem goesUp_any (neg : Bool) (q Q bd R : Nat) (mode : Int) (w : World) (hq : NumAt w q Q bd) (hb : bd ≤ 900000) (hR : R ≤ 3) :
    Calls Tryz.prog 101 #[.bool neg, .pointer (some ⟨q, 0, none⟩), .int .i64 ((R : Int) - 2), .int .i64 mode] w fun r w' => r = .returned (.bool (goesOf neg (decide (Q % 2 = 1)) R mode)) ∧ Below w.heap.size w w' := by
  have HB : Hid (∀ w', w' = w → Calls Tryz.prog 136 #[.pointer (some ⟨q, 0, none⟩), .int .i64 0] w' fun r w1 => r = .returned (.int .u64 ((Q % 2 : Nat) : Int)) ∧ Hid (Below w.heap.size w w1)) := by
    rintro w' rfl
    refine (NBit0 q Q bd w' hq hb).mono ?_
    rintro r w1 ⟨rfl, m, rfl⟩
    exact ⟨rfl, bl_drewN m (Below.refl _ _)⟩
  have ho2 : Q % 2 = 0 ∨ Q % 2 = 1 := by omega
  clear hq hb
  by_cases m0 : mode = 0
  · subst m0
    rcases (show R = 0 ∨ R = 1 ∨ R = 2 ∨ R = 3 by omega) with rfl | rfl | rfl | rfl
    · go_enter Tryz.func101, Tryz.ntmps101
      go_wp2
      go_ret
      exact ⟨by first | rfl | (cases neg <;> rfl), Below.refl _ _⟩
    · go_enter Tryz.func101, Tryz.ntmps101
      go_wp2
      go_ret
      exact ⟨by first | rfl | (cases neg <;> rfl), Below.refl _ _⟩
    · rcases ho2 with h | h
      all_goals
        rw [h] at HB ⊢
        clear h
        go_enter Tryz.func101, Tryz.ntmps101
        go_wp2_with fail
        refine (HB.out _ rfl).mono ?_
        rintro r w1 ⟨rfl, HB1⟩
        go_wp2
        go_ret
        exact ⟨by first | rfl | (cases neg <;> rfl), HB1.out⟩
    · go_enter Tryz.func101, Tryz.ntmps101
      go_wp2
      go_ret
      exact ⟨by first | rfl | (cases neg <;> rfl), Below.refl _ _⟩
  · by_cases m1 : mode = 1
    · subst m1
      rcases (show R = 0 ∨ R = 1 ∨ R = 2 ∨ R = 3 by omega) with rfl | rfl | rfl | rfl
      all_goals
        go_enter Tryz.func101, Tryz.ntmps101
        go_wp2
        go_ret
        exact ⟨by first | rfl | (cases neg <;> rfl), Below.refl _ _⟩
    · by_cases m3 : mode = 3
      · subst m3
        rcases (show R = 0 ∨ R = 1 ∨ R = 2 ∨ R = 3 by omega) with rfl | rfl | rfl | rfl
        all_goals
          cases neg
          all_goals
            go_enter Tryz.func101, Tryz.ntmps101
            go_wp2
            go_ret
            exact ⟨rfl, Below.refl _ _⟩
      · by_cases m4 : mode = 4
        · subst m4
          rcases (show R = 0 ∨ R = 1 ∨ R = 2 ∨ R = 3 by omega) with rfl | rfl | rfl | rfl
          all_goals
            cases neg
            all_goals
              go_enter Tryz.func101, Tryz.ntmps101
              go_wp2
              go_ret
              exact ⟨rfl, Below.refl _ _⟩
        · have e : goesOf neg (decide (Q % 2 = 1)) R mode = false := by
            unfold goesOf growsOf
            simp [m0, m1, m3, m4]
          rw [e]
          have b0 : (mode == 0) = false := by simpa using m0
          have b1 : (mode == 1) = false := by simpa using m1
          have b3 : (mode == 3) = false := by simpa using m3
          have b4 : (mode == 4) = false := by simpa using m4
          clear m0 m1 m3 m4 hR e ho2
          go_enter Tryz.func101, Tryz.ntmps101
          go_wp2
          go_ret
          exact ⟨rfl, Below.refl _ _⟩
end Go.Proofs.YtpgcelbgmpfliaaGreatDoor
