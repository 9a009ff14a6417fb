
/- Proved: for all whole numbers i (of 64 bits with a sign) and u (without one) and every mode the law ConvertInts answers true: FromInt, FromUint and NarrowInt give the number, the flags and the error that the document's own reckoning in whole numbers gives (ErrMode of what is no mode). Its condition: the library's table of trailing zeros starts as the program's text lays it, to which the card ties it. -/
import Derived.Test.YtdhifmkfdpbpcaaGreatDoorR2R64
import Derived.Test.YtdhifmkfdpbpcaaGreatDoorR2R32
import Derived.Test.YtdhifmkfdpbpcaaGreatDoorR2Take
import Derived.Test.YtdhifmkfdpbpcaaGreatDoorCvAwake
import Derived.Test.YtdhifmkfdpbpcaaGreatDoorSeat
import Derived.Test.YtdhifmkfdpbpcaaGreatDoorTie
import Derived.Test.YtdhifmkfdpbpcaaGreatDoorCards
import Derived.SevenTiedAt
namespace Go.Proofs.YtdhifmkfdpbpcaaGreatDoor
open Go.RowKit Go.IntWalk

set_option maxHeartbeats 400000 in
theorem SetInt64_neg (z : Nat) (neg0 : Bool) (a0 : Option Addr) (n0 cap0 n : Nat) (w : World) (hz : w.heap[z]? = some (.cells #[.bool neg0, .slice a0 n0 cap0] 73)) (hp : 0 < n) (hn0 : n ≤ 9223372036854775808) :
    Calls Tryz.prog 86 #[.pointer (some ⟨z, 0, none⟩), .int .i64 (-(n : Int))] w fun r w' => r = .returned (.pointer (some ⟨z, 0, none⟩)) ∧ ∃ L', natL L' = n ∧ L'.length ≤ 2 ∧ BigAt w' z true L' ∧ But z w w' := by
  have hlt := (int_cells hz).2.2.2
  have hn : n < 18446744073709551616 := by omega
  obtain ⟨V, hV⟩ : ∃ V : Int, Hid (18446744073709551616 - (n : Int) = V) := ⟨_, rfl⟩
  have hw : IntKind.u64.wrap (-(n : Int)) = V := by have := hV.out; rw [IntKind.wrap_u64]; omega
  have hw2 : IntKind.u64.wrap (-V) = (n : Int) := by have := hV.out; rw [IntKind.wrap_u64]; omega
  have hnn : -(n : Int) < 0 := by omega
  have HW := hid (words_any n w hn)
  have HP : Hid (∀ T, Calls Tryz.prog 88 #[.pointer (some ⟨z, 0, none⟩), .bool true, .slice (some ⟨w.heap.size, 0, none⟩) (numW n) 2] (w.alloc (.cells #[.int .u32 (loW n), .int .u32 (hiW n)] T)) fun r w' => r = .returned (.pointer (some ⟨z, 0, none⟩)) ∧ ∃ L', natL L' = n ∧ L'.length ≤ 2 ∧ BigAt w' z true L' ∧ But z w w') := by
    intro T
    have hk : numW n ≤ 2 := by unfold numW; split <;> (try split) <;> omega
    have hlen : ([loW n, hiW n].take (numW n)).length = numW n := by rw [List.length_take]; exact Nat.min_eq_left hk
    have hm2 : MagAt (w.alloc (.cells #[.int .u32 (loW n), .int .u32 (hiW n)] T)) (some ⟨w.heap.size, 0, none⟩) [loW n, hiW n] := by
      intro i hi
      refine ⟨w.heap.size, 0, rfl, by simp, ?_⟩
      rcases (show i = 0 ∨ i = 1 by simp at hi; omega) with rfl | rfl
      · simp [go_sem]
      · simp [go_sem]
    have hb : But z w (w.alloc (.cells #[.int .u32 (loW n), .int .u32 (hiW n)] T)) := But.of_below ((Below.refl _ _).alloc (Nat.le_refl _) _)
    have hz2 : (w.alloc (.cells #[.int .u32 (loW n), .int .u32 (hiW n)] T)).heap[z]? = some (.cells #[.bool neg0, .slice a0 n0 cap0] 73) := by
      rw [((Below.refl w.heap.size w).alloc (Nat.le_refl _) _).block z hlt]; exact hz
    have := put_any z true neg0 (some ⟨w.heap.size, 0, none⟩) a0 n0 2 cap0 ([loW n, hiW n].take (numW n)) _ hz2 (hm2.take _) ((words_dig n hn).take _) (by rw [hlen]; exact hk) (by rw [hlen]; omega)
    rw [hlen] at this
    refine this.mono ?_
    rintro r w' ⟨rfl, L', e1, e2, e3, e4⟩
    have e0 : natL ([loW n, hiW n].take (numW n)) = n := (natL_words n).2
    refine ⟨rfl, L', by rw [e1]; exact e0, by omega, ?_, hb.trans e4⟩
    rw [e0, Bool.true_and, decide_eq_true (by omega)] at e3
    exact e3
  clear hz hn hn0 hp
  go_enter Tryz.func86, Tryz.ntmps86
  go_wp2_with fail
  refine HW.out.mono ?_
  rintro r w1 ⟨rfl, T', rfl⟩
  go_wp2_with fail
  refine (HP.out T').mono ?_
  rintro r w2 ⟨rfl, hE⟩
  have HE := hid hE
  clear hE
  go_wp2
  go_ret
  exact ⟨rfl, HE.out⟩
set_option maxHeartbeats 400000 in
theorem NNewNeg (n : Nat) (w : World) (hp : 0 < n) (hn : n ≤ 9223372036854775808) :
    Calls Tryz.prog 38 #[.int .i64 (-(n : Int))] w fun r w' => r = .returned (.pointer (some ⟨w.heap.size, 0, none⟩)) ∧ NumAt w' w.heap.size (-(n : Int)) 2 ∧ Below w.heap.size w w' := by
  have HS : Hid (∀ w', w' = w.alloc (.cells #[.bool false, .slice none 0 0] 73) → Calls Tryz.prog 86 #[.pointer (some ⟨w.heap.size, 0, none⟩), .int .i64 (-(n : Int))] w' fun r w'' => r = .returned (.pointer (some ⟨w.heap.size, 0, none⟩)) ∧ Hid (NumAt w'' w.heap.size (-(n : Int)) 2 ∧ Below w.heap.size w w'')) := by
    rintro w' rfl
    refine (SetInt64_neg w.heap.size false none 0 0 n _ (by show (w.heap.push _)[w.heap.size]? = _; rw [Array.getElem?_push_size]) hp hn).mono ?_
    rintro r w'' ⟨rfl, L', e1, e2, e3, e4⟩
    refine ⟨rfl, ⟨true, L', by unfold intL; rw [if_pos rfl, e1], e2, e3⟩, ?_⟩
    have h1 : Below w.heap.size w (w.alloc (.cells #[.bool false, .slice none 0 0] 73)) := (Below.refl _ _).alloc (Nat.le_refl _) _
    exact h1.trans (e4.below h1.size (Nat.le_refl _))
  clear hn hp
  go_enter Tryz.func38, Tryz.ntmps38
  go_wp2_with fail
  refine (HS.out _ rfl).mono ?_
  rintro r w1 ⟨rfl, HE⟩
  go_wp2
  go_ret
  exact ⟨rfl, HE.out⟩
theorem NNewZ (n : Int) (w : World) (h1 : -9223372036854775808 ≤ n) (h2 : n ≤ 9223372036854775807) :
    Calls Tryz.prog 38 #[.int .i64 n] w fun r w' => r = .returned (.pointer (some ⟨w.heap.size, 0, none⟩)) ∧ NumAt w' w.heap.size n 2 ∧ Below w.heap.size w w' := by
  by_cases h : 0 ≤ n
  · obtain ⟨k, rfl⟩ := Int.eq_ofNat_of_zero_le h
    exact NNew k w (by omega)
  · obtain ⟨k, hk⟩ := Int.eq_ofNat_of_zero_le (show 0 ≤ -n by omega)
    obtain rfl : n = -(k : Int) := by omega
    exact NNewNeg k w (by omega) (by omega)
theorem sgn_neg (v : Int) (h : v ≠ 0) : (sgnZ v == 0) = false ∧ decide (sgnZ v < 0) = decide (v < 0) := by
  unfold sgnZ
  rw [if_neg h]
  by_cases c : v < 0
  · rw [if_pos c, decide_eq_true c]; exact ⟨rfl, rfl⟩
  · rw [if_neg c, decide_eq_false c]; exact ⟨rfl, rfl⟩
set_option maxHeartbeats 1000000 in
theorem from64_any (p bd : Nat) (v mode : Int) (w : World) (h : NumAt w p v bd) (hb : bd ≤ 100) (hv : v ≠ 0) (m1 : 0 ≤ mode) (m2 : mode ≤ 4) :
    Calls Tryz.prog 36 #[.agg #[.int .i64 53, .int .i64 (-1022), .int .i64 1023, .int .i64 11], .pointer (some ⟨p, 0, none⟩), .int .i64 mode] w fun r w' => r = .returned (.tuple #[.int .u64 (signN (decide (v < 0)) (docR64 v.natAbs 0 mode (decide (v < 0)))), .int .i64 (rFlag 53 (-1022) 1023 v.natAbs 0 mode (decide (v < 0))), .int .i64 0]) ∧ Below w.heap.size w w' := by
  have hk : decide (0 ≤ mode ∧ mode ≤ 4) = true := decide_eq_true ⟨m1, m2⟩
  obtain ⟨s1, s2⟩ := sgn_neg v hv
  obtain ⟨S, hS⟩ : ∃ S, Hid (sgnZ v = S) := ⟨_, rfl⟩
  obtain ⟨B, hB⟩ : ∃ B, Hid (decide (v < 0) = B) := ⟨_, rfl⟩
  rw [hS.out] at s1 s2
  rw [hB.out] at s2 ⊢
  have hFB : ∀ W, Below (w.heap.size + 1) (w.alloc (.cells #[.int .i64 53, .int .i64 (-1022), .int .i64 1023, .int .i64 11] 66)) W → Below w.heap.size w W := fun W hW => (al_below w _).trans (hW.mono (Nat.le_succ _))
  have HSG : Hid (∀ W, Below w.heap.size w W → Calls Tryz.prog 58 #[.pointer (some ⟨p, 0, none⟩)] W fun r w' => r = .returned (.int .i64 S) ∧ w' = W) := fun W hW => by
    rw [← hS.out]
    exact NSign p v bd W (h.below hW)
  have HS2 : Hid (∀ W, Hid (Below (w.heap.size + 1) (w.alloc (.cells #[.int .i64 53, .int .i64 (-1022), .int .i64 1023, .int .i64 11] 66)) W) → Calls Tryz.prog 58 #[.pointer (some ⟨p, 0, none⟩)] W fun r w' => r = .returned (.int .i64 S) ∧ w' = W) := fun W hW => HSG.out W (hFB W hW.out)
  have HAB : Hid (∀ W z, NumAt W z 0 0 → Hid (Below (w.heap.size + 1) (w.alloc (.cells #[.int .i64 53, .int .i64 (-1022), .int .i64 1023, .int .i64 11] 66)) W) → w.heap.size + 1 ≤ z → Calls Tryz.prog 85 #[.pointer (some ⟨z, 0, none⟩), .pointer (some ⟨p, 0, none⟩)] W fun r w' => r = .returned (.pointer (some ⟨z, 0, none⟩)) ∧ Hid (NumAt w' z (v.natAbs : Int) bd) ∧ Hid (Below (w.heap.size + 1) (w.alloc (.cells #[.int .i64 53, .int .i64 (-1022), .int .i64 1023, .int .i64 11] 66)) w')) := fun W z hz hW hge => by
    refine (NAbs z p v bd W hz.zok (h.below (hFB W hW.out)) (by omega)).mono ?_
    rintro r w' ⟨rfl, e1, e2⟩
    exact ⟨rfl, e1, hW.out.trans (e2.below (by have := hW.out.size; simp at this; omega) hge)⟩
  have HR : Hid (∀ W z, NumAt W z (v.natAbs : Int) bd → Hid (Below (w.heap.size + 1) (w.alloc (.cells #[.int .i64 53, .int .i64 (-1022), .int .i64 1023, .int .i64 11] 66)) W) → Calls Tryz.prog 60 #[.agg #[.int .i64 53, .int .i64 (-1022), .int .i64 1023, .int .i64 11], .bool B, .pointer (some ⟨z, 0, none⟩), .int .i64 0, .bool false, .int .i64 mode] W fun r w' => r = .returned (.tuple #[.int .u64 (signN B (docR64 v.natAbs 0 mode B)), .int .i64 (rFlag 53 (-1022) 1023 v.natAbs 0 mode B)]) ∧ Hid (Below (w.heap.size + 1) (w.alloc (.cells #[.int .i64 53, .int .i64 (-1022), .int .i64 1023, .int .i64 11] 66)) w')) := fun W z hz hW => by
    refine (Round64_any B z v.natAbs bd 0 mode W hz (by omega) (by omega) (by decide) (by decide)).mono ?_
    rintro r w' ⟨rfl, hb'⟩
    exact ⟨rfl, fC hW.out hb' (by have := hW.out.size; simp at this; omega)⟩
  have HBD : Hid (bd ≤ 900000) := by show bd ≤ 900000; omega
  obtain ⟨X, hX⟩ : ∃ X, Hid (signN B (docR64 v.natAbs 0 mode B) = X) := ⟨_, rfl⟩
  obtain ⟨Y, hY⟩ : ∃ Y, Hid (rFlag 53 (-1022) 1023 v.natAbs 0 mode B = Y) := ⟨_, rfl⟩
  rw [hX.out, hY.out] at HR
  rw [hX.out, hY.out]
  have HFB := hid hFB
  have HK : Hid (∀ W, Hid (Below (w.heap.size + 1) (w.alloc (.cells #[.int .i64 53, .int .i64 (-1022), .int .i64 1023, .int .i64 11] 66)) W) → (W.cell? ⟨w.heap.size, 0, none⟩ = some (.int .i64 53) ∧ W.cell? ⟨w.heap.size, 1, none⟩ = some (.int .i64 (-1022)) ∧ W.cell? ⟨w.heap.size, 2, none⟩ = some (.int .i64 1023) ∧ W.cell? ⟨w.heap.size, 3, none⟩ = some (.int .i64 11)) ∧ Hid (Below (w.heap.size + 1) (w.alloc (.cells #[.int .i64 53, .int .i64 (-1022), .int .i64 1023, .int .i64 11] 66)) W)) := fun W hW => ⟨fcells hW.out, hW⟩
  have HQ0 : Hid (Below (w.heap.size + 1) (w.alloc (.cells #[.int .i64 53, .int .i64 (-1022), .int .i64 1023, .int .i64 11] 66)) (w.alloc (.cells #[.int .i64 53, .int .i64 (-1022), .int .i64 1023, .int .i64 11] 66)).drew) := Below.drew (Below.refl _ _)
  have HQ1 : Hid (Below (w.heap.size + 1) (w.alloc (.cells #[.int .i64 53, .int .i64 (-1022), .int .i64 1023, .int .i64 11] 66)) ((w.alloc (.cells #[.int .i64 53, .int .i64 (-1022), .int .i64 1023, .int .i64 11] 66)).alloc (.cells #[.bool false, .slice none 0 0] 73)).drew) := Below.drew (Below.alloc (Below.refl _ _) (by simp) _)
  have HQ2 : Hid (Below (w.heap.size + 1) (w.alloc (.cells #[.int .i64 53, .int .i64 (-1022), .int .i64 1023, .int .i64 11] 66)) ((w.alloc (.cells #[.int .i64 53, .int .i64 (-1022), .int .i64 1023, .int .i64 11] 66)).drew.alloc (.cells #[.bool false, .slice none 0 0] 73))) := Below.alloc (Below.drew (Below.refl _ _)) (by simp) _
  have HZ1 : Hid (NumAt ((w.alloc (.cells #[.int .i64 53, .int .i64 (-1022), .int .i64 1023, .int .i64 11] 66)).alloc (.cells #[.bool false, .slice none 0 0] 73)).drew (w.heap.size + 1) 0 0) := by
    have := (fresh_num (w.alloc (.cells #[.int .i64 53, .int .i64 (-1022), .int .i64 1023, .int .i64 11] 66))).drew
    have e : (w.alloc (.cells #[.int .i64 53, .int .i64 (-1022), .int .i64 1023, .int .i64 11] 66)).heap.size = w.heap.size + 1 := by simp
    rw [e] at this
    exact this
  clear h hb hv m1 m2 hFB
  go_enter Tryz.func36, Tryz.ntmps36
  go_wp2_with fail
  refine (Known_any mode _).mono ?_
  rintro r w0 ⟨rfl, rfl⟩
  rw [hk]
  clear hk
  go_wp2_with fail
  refine (HSG.out _ (by first | exact Below.refl _ _ | exact al_below _ _)).mono ?_
  rintro r w1 ⟨rfl, rfl⟩
  go_wp2_with fail
  go_region_held3 (fun W => (W.cell? ⟨w.heap.size, 0, none⟩ = some (.int .i64 53) ∧ W.cell? ⟨w.heap.size, 1, none⟩ = some (.int .i64 (-1022)) ∧ W.cell? ⟨w.heap.size, 2, none⟩ = some (.int .i64 1023) ∧ W.cell? ⟨w.heap.size, 3, none⟩ = some (.int .i64 11)) ∧ Hid (Below (w.heap.size + 1) (w.alloc (.cells #[.int .i64 53, .int .i64 (-1022), .int .i64 1023, .int .i64 11] 66)) W))
    ((refine HK.out _ ?_; first | assumption | exact HQ0 | exact HQ1 | exact HQ2))
    (first
      | (go_at_call 58; with_reducible refine (HS2.out _ (And.right (by assumption))).mono ?_; rintro r w2 ⟨rfl, rfl⟩)
      | (go_at_call 85; with_reducible refine (HAB.out _ _ (by first | exact HZ1.out | exact fresh_num _) (And.right (by assumption)) (by first | omega | (simp; done) | (simp; omega))).mono ?_; rintro r w3 ⟨rfl, HN3, HF3⟩)
      | (go_at_call 60; with_reducible refine (HR.out _ _ HN3.out (And.right (by assumption))).mono ?_; rintro r w4 ⟨rfl, HF4⟩))
  all_goals go_wp2
  all_goals go_ret3
  all_goals exact ⟨rfl, HFB.out _ HF4.out⟩
set_option maxHeartbeats 400000 in
theorem from64_zero (p bd : Nat) (mode : Int) (w : World) (h : NumAt w p 0 bd) (m1 : 0 ≤ mode) (m2 : mode ≤ 4) :
    Calls Tryz.prog 36 #[.agg #[.int .i64 53, .int .i64 (-1022), .int .i64 1023, .int .i64 11], .pointer (some ⟨p, 0, none⟩), .int .i64 mode] w fun r w' => r = .returned (.tuple #[.int .u64 0, .int .i64 0, .int .i64 0]) ∧ Below w.heap.size w w' := by
  have hk : decide (0 ≤ mode ∧ mode ≤ 4) = true := decide_eq_true ⟨m1, m2⟩
  have HSG : Hid (∀ W, Below w.heap.size w W → Calls Tryz.prog 58 #[.pointer (some ⟨p, 0, none⟩)] W fun r w' => r = .returned (.int .i64 0) ∧ w' = W) := fun W hW => NSign p 0 bd W (h.below hW)
  clear h m1 m2
  go_enter Tryz.func36, Tryz.ntmps36
  go_wp2_with fail
  refine (Known_any mode _).mono ?_
  rintro r w0 ⟨rfl, rfl⟩
  rw [hk]
  clear hk
  go_wp2_with fail
  refine (HSG.out _ (by first | exact Below.refl _ _ | exact al_below _ _)).mono ?_
  rintro r w1 ⟨rfl, rfl⟩
  go_wp2
  go_ret3
  exact ⟨rfl, by first | exact Below.refl _ _ | exact al_below _ _⟩
set_option maxHeartbeats 400000 in
theorem from64_bad (p : Nat) (mode : Int) (w : World) (hm : ¬ (0 ≤ mode ∧ mode ≤ 4)) :
    Calls Tryz.prog 36 #[.agg #[.int .i64 53, .int .i64 (-1022), .int .i64 1023, .int .i64 11], .pointer (some ⟨p, 0, none⟩), .int .i64 mode] w fun r w' => r = .returned (.tuple #[.int .u64 0, .int .i64 0, .int .i64 20]) ∧ Below w.heap.size w w' := by
  have hk : decide (0 ≤ mode ∧ mode ≤ 4) = false := decide_eq_false hm
  clear hm
  go_enter Tryz.func36, Tryz.ntmps36
  go_wp2_with fail
  refine (Known_any mode _).mono ?_
  rintro r w0 ⟨rfl, rfl⟩
  rw [hk]
  clear hk
  go_wp2
  go_ret3
  exact ⟨rfl, by first | exact Below.refl _ _ | exact al_below _ _⟩
/-- What comes of a whole number: its bits, its flags, its error. -/
def iMag64 (v mode : Int) : Nat := if 0 ≤ mode ∧ mode ≤ 4 then (if v = 0 then 0 else signN (decide (v < 0)) (docR64 v.natAbs 0 mode (decide (v < 0)))) else 0
def iFl64 (v mode : Int) : Int := if 0 ≤ mode ∧ mode ≤ 4 then (if v = 0 then 0 else rFlag 53 (-1022) 1023 v.natAbs 0 mode (decide (v < 0))) else 0
theorem from64_all (p bd : Nat) (v mode : Int) (w : World) (h : NumAt w p v bd) (hb : bd ≤ 100) :
    Calls Tryz.prog 36 #[.agg #[.int .i64 53, .int .i64 (-1022), .int .i64 1023, .int .i64 11], .pointer (some ⟨p, 0, none⟩), .int .i64 mode] w fun r w' => r = .returned (.tuple #[.int .u64 (iMag64 v mode), .int .i64 (iFl64 v mode), .int .i64 (if 0 ≤ mode ∧ mode ≤ 4 then 0 else 20)]) ∧ Below w.heap.size w w' := by
  unfold iMag64 iFl64
  by_cases hm : 0 ≤ mode ∧ mode ≤ 4
  · rw [if_pos hm, if_pos hm, if_pos hm]
    by_cases hv : v = 0
    · subst hv
      rw [if_pos rfl, if_pos rfl]
      exact from64_zero p bd mode w h hm.1 hm.2
    · rw [if_neg hv, if_neg hv]
      exact from64_any p bd v mode w h hb hv hm.1 hm.2
  · rw [if_neg hm, if_neg hm, if_neg hm]
    exact from64_bad p mode w hm
set_option maxHeartbeats 1000000 in
theorem from32_any (p bd : Nat) (v mode : Int) (w : World) (h : NumAt w p v bd) (hb : bd ≤ 100) (hv : v ≠ 0) (m1 : 0 ≤ mode) (m2 : mode ≤ 4) :
    Calls Tryz.prog 36 #[.agg #[.int .i64 24, .int .i64 (-126), .int .i64 127, .int .i64 8], .pointer (some ⟨p, 0, none⟩), .int .i64 mode] w fun r w' => r = .returned (.tuple #[.int .u64 (signN32 (decide (v < 0)) (docR32 v.natAbs 0 mode (decide (v < 0)))), .int .i64 (rFlag 24 (-126) 127 v.natAbs 0 mode (decide (v < 0))), .int .i64 0]) ∧ Below w.heap.size w w' := by
  have hk : decide (0 ≤ mode ∧ mode ≤ 4) = true := decide_eq_true ⟨m1, m2⟩
  obtain ⟨s1, s2⟩ := sgn_neg v hv
  obtain ⟨S, hS⟩ : ∃ S, Hid (sgnZ v = S) := ⟨_, rfl⟩
  obtain ⟨B, hB⟩ : ∃ B, Hid (decide (v < 0) = B) := ⟨_, rfl⟩
  rw [hS.out] at s1 s2
  rw [hB.out] at s2 ⊢
  have hFB : ∀ W, Below (w.heap.size + 1) (w.alloc (.cells #[.int .i64 24, .int .i64 (-126), .int .i64 127, .int .i64 8] 66)) W → Below w.heap.size w W := fun W hW => (al_below w _).trans (hW.mono (Nat.le_succ _))
  have HSG : Hid (∀ W, Below w.heap.size w W → Calls Tryz.prog 58 #[.pointer (some ⟨p, 0, none⟩)] W fun r w' => r = .returned (.int .i64 S) ∧ w' = W) := fun W hW => by
    rw [← hS.out]
    exact NSign p v bd W (h.below hW)
  have HS2 : Hid (∀ W, Hid (Below (w.heap.size + 1) (w.alloc (.cells #[.int .i64 24, .int .i64 (-126), .int .i64 127, .int .i64 8] 66)) W) → Calls Tryz.prog 58 #[.pointer (some ⟨p, 0, none⟩)] W fun r w' => r = .returned (.int .i64 S) ∧ w' = W) := fun W hW => HSG.out W (hFB W hW.out)
  have HAB : Hid (∀ W z, NumAt W z 0 0 → Hid (Below (w.heap.size + 1) (w.alloc (.cells #[.int .i64 24, .int .i64 (-126), .int .i64 127, .int .i64 8] 66)) W) → w.heap.size + 1 ≤ z → Calls Tryz.prog 85 #[.pointer (some ⟨z, 0, none⟩), .pointer (some ⟨p, 0, none⟩)] W fun r w' => r = .returned (.pointer (some ⟨z, 0, none⟩)) ∧ Hid (NumAt w' z (v.natAbs : Int) bd) ∧ Hid (Below (w.heap.size + 1) (w.alloc (.cells #[.int .i64 24, .int .i64 (-126), .int .i64 127, .int .i64 8] 66)) w')) := fun W z hz hW hge => by
    refine (NAbs z p v bd W hz.zok (h.below (hFB W hW.out)) (by omega)).mono ?_
    rintro r w' ⟨rfl, e1, e2⟩
    exact ⟨rfl, e1, hW.out.trans (e2.below (by have := hW.out.size; simp at this; omega) hge)⟩
  have HR : Hid (∀ W z, NumAt W z (v.natAbs : Int) bd → Hid (Below (w.heap.size + 1) (w.alloc (.cells #[.int .i64 24, .int .i64 (-126), .int .i64 127, .int .i64 8] 66)) W) → Calls Tryz.prog 60 #[.agg #[.int .i64 24, .int .i64 (-126), .int .i64 127, .int .i64 8], .bool B, .pointer (some ⟨z, 0, none⟩), .int .i64 0, .bool false, .int .i64 mode] W fun r w' => r = .returned (.tuple #[.int .u64 (signN32 B (docR32 v.natAbs 0 mode B)), .int .i64 (rFlag 24 (-126) 127 v.natAbs 0 mode B)]) ∧ Hid (Below (w.heap.size + 1) (w.alloc (.cells #[.int .i64 24, .int .i64 (-126), .int .i64 127, .int .i64 8] 66)) w')) := fun W z hz hW => by
    refine (Round32_any B z v.natAbs bd 0 mode W hz (by omega) (by omega) (by decide) (by decide)).mono ?_
    rintro r w' ⟨rfl, hb'⟩
    exact ⟨rfl, fC hW.out hb' (by have := hW.out.size; simp at this; omega)⟩
  have HBD : Hid (bd ≤ 900000) := by show bd ≤ 900000; omega
  obtain ⟨X, hX⟩ : ∃ X, Hid (signN32 B (docR32 v.natAbs 0 mode B) = X) := ⟨_, rfl⟩
  obtain ⟨Y, hY⟩ : ∃ Y, Hid (rFlag 24 (-126) 127 v.natAbs 0 mode B = Y) := ⟨_, rfl⟩
  rw [hX.out, hY.out] at HR
  rw [hX.out, hY.out]
  have HFB := hid hFB
  have HK : Hid (∀ W, Hid (Below (w.heap.size + 1) (w.alloc (.cells #[.int .i64 24, .int .i64 (-126), .int .i64 127, .int .i64 8] 66)) W) → (W.cell? ⟨w.heap.size, 0, none⟩ = some (.int .i64 24) ∧ W.cell? ⟨w.heap.size, 1, none⟩ = some (.int .i64 (-126)) ∧ W.cell? ⟨w.heap.size, 2, none⟩ = some (.int .i64 127) ∧ W.cell? ⟨w.heap.size, 3, none⟩ = some (.int .i64 8)) ∧ Hid (Below (w.heap.size + 1) (w.alloc (.cells #[.int .i64 24, .int .i64 (-126), .int .i64 127, .int .i64 8] 66)) W)) := fun W hW => ⟨fcells hW.out, hW⟩
  have HQ0 : Hid (Below (w.heap.size + 1) (w.alloc (.cells #[.int .i64 24, .int .i64 (-126), .int .i64 127, .int .i64 8] 66)) (w.alloc (.cells #[.int .i64 24, .int .i64 (-126), .int .i64 127, .int .i64 8] 66)).drew) := Below.drew (Below.refl _ _)
  have HQ1 : Hid (Below (w.heap.size + 1) (w.alloc (.cells #[.int .i64 24, .int .i64 (-126), .int .i64 127, .int .i64 8] 66)) ((w.alloc (.cells #[.int .i64 24, .int .i64 (-126), .int .i64 127, .int .i64 8] 66)).alloc (.cells #[.bool false, .slice none 0 0] 73)).drew) := Below.drew (Below.alloc (Below.refl _ _) (by simp) _)
  have HQ2 : Hid (Below (w.heap.size + 1) (w.alloc (.cells #[.int .i64 24, .int .i64 (-126), .int .i64 127, .int .i64 8] 66)) ((w.alloc (.cells #[.int .i64 24, .int .i64 (-126), .int .i64 127, .int .i64 8] 66)).drew.alloc (.cells #[.bool false, .slice none 0 0] 73))) := Below.alloc (Below.drew (Below.refl _ _)) (by simp) _
  have HZ1 : Hid (NumAt ((w.alloc (.cells #[.int .i64 24, .int .i64 (-126), .int .i64 127, .int .i64 8] 66)).alloc (.cells #[.bool false, .slice none 0 0] 73)).drew (w.heap.size + 1) 0 0) := by
    have := (fresh_num (w.alloc (.cells #[.int .i64 24, .int .i64 (-126), .int .i64 127, .int .i64 8] 66))).drew
    have e : (w.alloc (.cells #[.int .i64 24, .int .i64 (-126), .int .i64 127, .int .i64 8] 66)).heap.size = w.heap.size + 1 := by simp
    rw [e] at this
    exact this
  clear h hb hv m1 m2 hFB
  go_enter Tryz.func36, Tryz.ntmps36
  go_wp2_with fail
  refine (Known_any mode _).mono ?_
  rintro r w0 ⟨rfl, rfl⟩
  rw [hk]
  clear hk
  go_wp2_with fail
  refine (HSG.out _ (by first | exact Below.refl _ _ | exact al_below _ _)).mono ?_
  rintro r w1 ⟨rfl, rfl⟩
  go_wp2_with fail
  go_region_held3 (fun W => (W.cell? ⟨w.heap.size, 0, none⟩ = some (.int .i64 24) ∧ W.cell? ⟨w.heap.size, 1, none⟩ = some (.int .i64 (-126)) ∧ W.cell? ⟨w.heap.size, 2, none⟩ = some (.int .i64 127) ∧ W.cell? ⟨w.heap.size, 3, none⟩ = some (.int .i64 8)) ∧ Hid (Below (w.heap.size + 1) (w.alloc (.cells #[.int .i64 24, .int .i64 (-126), .int .i64 127, .int .i64 8] 66)) W))
    ((refine HK.out _ ?_; first | assumption | exact HQ0 | exact HQ1 | exact HQ2))
    (first
      | (go_at_call 58; with_reducible refine (HS2.out _ (And.right (by assumption))).mono ?_; rintro r w2 ⟨rfl, rfl⟩)
      | (go_at_call 85; with_reducible refine (HAB.out _ _ (by first | exact HZ1.out | exact fresh_num _) (And.right (by assumption)) (by first | omega | (simp; done) | (simp; omega))).mono ?_; rintro r w3 ⟨rfl, HN3, HF3⟩)
      | (go_at_call 60; with_reducible refine (HR.out _ _ HN3.out (And.right (by assumption))).mono ?_; rintro r w4 ⟨rfl, HF4⟩))
  all_goals go_wp2
  all_goals go_ret3
  all_goals exact ⟨rfl, HFB.out _ HF4.out⟩
set_option maxHeartbeats 400000 in
theorem from32_zero (p bd : Nat) (mode : Int) (w : World) (h : NumAt w p 0 bd) (m1 : 0 ≤ mode) (m2 : mode ≤ 4) :
    Calls Tryz.prog 36 #[.agg #[.int .i64 24, .int .i64 (-126), .int .i64 127, .int .i64 8], .pointer (some ⟨p, 0, none⟩), .int .i64 mode] w fun r w' => r = .returned (.tuple #[.int .u64 0, .int .i64 0, .int .i64 0]) ∧ Below w.heap.size w w' := by
  have hk : decide (0 ≤ mode ∧ mode ≤ 4) = true := decide_eq_true ⟨m1, m2⟩
  have HSG : Hid (∀ W, Below w.heap.size w W → Calls Tryz.prog 58 #[.pointer (some ⟨p, 0, none⟩)] W fun r w' => r = .returned (.int .i64 0) ∧ w' = W) := fun W hW => NSign p 0 bd W (h.below hW)
  clear h m1 m2
  go_enter Tryz.func36, Tryz.ntmps36
  go_wp2_with fail
  refine (Known_any mode _).mono ?_
  rintro r w0 ⟨rfl, rfl⟩
  rw [hk]
  clear hk
  go_wp2_with fail
  refine (HSG.out _ (by first | exact Below.refl _ _ | exact al_below _ _)).mono ?_
  rintro r w1 ⟨rfl, rfl⟩
  go_wp2
  go_ret3
  exact ⟨rfl, by first | exact Below.refl _ _ | exact al_below _ _⟩
set_option maxHeartbeats 400000 in
theorem from32_bad (p : Nat) (mode : Int) (w : World) (hm : ¬ (0 ≤ mode ∧ mode ≤ 4)) :
    Calls Tryz.prog 36 #[.agg #[.int .i64 24, .int .i64 (-126), .int .i64 127, .int .i64 8], .pointer (some ⟨p, 0, none⟩), .int .i64 mode] w fun r w' => r = .returned (.tuple #[.int .u64 0, .int .i64 0, .int .i64 20]) ∧ Below w.heap.size w w' := by
  have hk : decide (0 ≤ mode ∧ mode ≤ 4) = false := decide_eq_false hm
  clear hm
  go_enter Tryz.func36, Tryz.ntmps36
  go_wp2_with fail
  refine (Known_any mode _).mono ?_
  rintro r w0 ⟨rfl, rfl⟩
  rw [hk]
  clear hk
  go_wp2
  go_ret3
  exact ⟨rfl, by first | exact Below.refl _ _ | exact al_below _ _⟩
/-- What comes of a whole number: its bits, its flags, its error. -/
def iMag32 (v mode : Int) : Nat := if 0 ≤ mode ∧ mode ≤ 4 then (if v = 0 then 0 else signN32 (decide (v < 0)) (docR32 v.natAbs 0 mode (decide (v < 0)))) else 0
def iFl32 (v mode : Int) : Int := if 0 ≤ mode ∧ mode ≤ 4 then (if v = 0 then 0 else rFlag 24 (-126) 127 v.natAbs 0 mode (decide (v < 0))) else 0
theorem from32_all (p bd : Nat) (v mode : Int) (w : World) (h : NumAt w p v bd) (hb : bd ≤ 100) :
    Calls Tryz.prog 36 #[.agg #[.int .i64 24, .int .i64 (-126), .int .i64 127, .int .i64 8], .pointer (some ⟨p, 0, none⟩), .int .i64 mode] w fun r w' => r = .returned (.tuple #[.int .u64 (iMag32 v mode), .int .i64 (iFl32 v mode), .int .i64 (if 0 ≤ mode ∧ mode ≤ 4 then 0 else 20)]) ∧ Below w.heap.size w w' := by
  unfold iMag32 iFl32
  by_cases hm : 0 ≤ mode ∧ mode ≤ 4
  · rw [if_pos hm, if_pos hm, if_pos hm]
    by_cases hv : v = 0
    · subst hv
      rw [if_pos rfl, if_pos rfl]
      exact from32_zero p bd mode w h hm.1 hm.2
    · rw [if_neg hv, if_neg hv]
      exact from32_any p bd v mode w h hb hv hm.1 hm.2
  · rw [if_neg hm, if_neg hm, if_neg hm]
    exact from32_bad p mode w hm
set_option maxHeartbeats 400000 in
theorem rFromInt_any (n mode : Int) (w : World) (h1 : -9223372036854775808 ≤ n) (h2 : n ≤ 9223372036854775807) :
    Calls Tryz.prog 7 #[.int .i64 n, .int .i64 mode] w fun r w' => r = .returned (.tuple #[.int .u64 (iMag64 n mode), .int .i64 (iFl64 n mode), .int .i64 (if 0 ≤ mode ∧ mode ≤ 4 then 0 else 20)]) ∧ Below w.heap.size w w' := by
  have HN := hid (fun (w : World) => NNewZ n w h1 h2)
  obtain ⟨X, hX⟩ : ∃ X, Hid (iMag64 n mode = X) := ⟨_, rfl⟩
  obtain ⟨Y, hY⟩ : ∃ Y, Hid (iFl64 n mode = Y) := ⟨_, rfl⟩
  obtain ⟨E, hE⟩ : ∃ E : Int, Hid ((if 0 ≤ mode ∧ mode ≤ 4 then 0 else 20) = E) := ⟨_, rfl⟩
  have HF : Hid (∀ W p, NumAt W p n 2 → Calls Tryz.prog 36 #[.agg #[.int .i64 53, .int .i64 (-1022), .int .i64 1023, .int .i64 11], .pointer (some ⟨p, 0, none⟩), .int .i64 mode] W fun r w' => r = .returned (.tuple #[.int .u64 X, .int .i64 Y, .int .i64 E]) ∧ Hid (Below W.heap.size W w')) := fun W p h => by
    rw [← hX.out, ← hY.out, ← hE.out]
    exact from64_all p 2 n mode W h (by decide)
  rw [hX.out, hY.out, hE.out]
  clear h1 h2
  go_enter Tryz.func7, Tryz.ntmps7
  go_wp2_with fail
  refine (Double_any _).mono ?_
  rintro r w1 ⟨rfl, b1⟩
  have B1 := hid b1
  clear b1
  go_wp2_with fail
  refine (HN.out _).mono ?_
  rintro r w2 ⟨rfl, h2, b2⟩
  have H2 := hid h2
  have B2 := hid (bl_then B1.out b2)
  clear h2 b2
  go_wp2_with fail
  refine (HF.out _ _ H2.out).mono ?_
  rintro r w3 ⟨rfl, B3⟩
  go_wp2
  go_ret3
  exact ⟨rfl, bl_then B2.out B3.out⟩
set_option maxHeartbeats 400000 in
theorem rFromUint_any (n : Nat) (mode : Int) (w : World) (h1 : n < 18446744073709551616) :
    Calls Tryz.prog 10 #[.int .u64 n, .int .i64 mode] w fun r w' => r = .returned (.tuple #[.int .u64 (iMag64 n mode), .int .i64 (iFl64 n mode), .int .i64 (if 0 ≤ mode ∧ mode ≤ 4 then 0 else 20)]) ∧ Below w.heap.size w w' := by
  have HN := hid (fun (w : World) z hz => NSetU z n w hz h1)
  obtain ⟨X, hX⟩ : ∃ X, Hid (iMag64 n mode = X) := ⟨_, rfl⟩
  obtain ⟨Y, hY⟩ : ∃ Y, Hid (iFl64 n mode = Y) := ⟨_, rfl⟩
  obtain ⟨E, hE⟩ : ∃ E : Int, Hid ((if 0 ≤ mode ∧ mode ≤ 4 then 0 else 20) = E) := ⟨_, rfl⟩
  have HF : Hid (∀ W p, NumAt W p n 2 → Calls Tryz.prog 36 #[.agg #[.int .i64 53, .int .i64 (-1022), .int .i64 1023, .int .i64 11], .pointer (some ⟨p, 0, none⟩), .int .i64 mode] W fun r w' => r = .returned (.tuple #[.int .u64 X, .int .i64 Y, .int .i64 E]) ∧ Hid (Below W.heap.size W w')) := fun W p h => by
    rw [← hX.out, ← hY.out, ← hE.out]
    exact from64_all p 2 n mode W h (by decide)
  rw [hX.out, hY.out, hE.out]
  clear h1
  go_enter Tryz.func10, Tryz.ntmps10
  go_wp2_with fail
  refine (Double_any _).mono ?_
  rintro r w1 ⟨rfl, b1⟩
  have B1 := hid b1
  clear b1
  go_wp2_with fail
  refine (HN.out _ _ (fresh_zok' _ _ rfl)).mono ?_
  rintro r w2 ⟨rfl, h2, b2⟩
  have H2 := hid h2
  have B2 := hid (bl_then B1.out (fresh_below b2))
  clear h2 b2
  go_wp2_with fail
  refine (HF.out _ _ H2.out).mono ?_
  rintro r w3 ⟨rfl, B3⟩
  go_wp2
  go_ret3
  exact ⟨rfl, bl_then B2.out B3.out⟩
theorem iMag32_lt (v mode : Int) : iMag32 v mode < 4294967296 := by
  unfold iMag32
  split
  · split
    · decide
    · rename_i hm hv
      rw [docR32_is v.natAbs 0 mode _ (by omega) hm.1 hm.2]
      have := (n_conv v.natAbs 0 mode (decide (v < 0))).2
      exact (signN_mod32 _ _ (by omega)).2.2
  · decide
set_option maxHeartbeats 400000 in
theorem rNarrowInt_any (n mode : Int) (w : World) (h1 : -9223372036854775808 ≤ n) (h2 : n ≤ 9223372036854775807) :
    Calls Tryz.prog 12 #[.int .i64 n, .int .i64 mode] w fun r w' => r = .returned (.tuple #[.int .u32 (iMag32 n mode), .int .i64 (iFl32 n mode), .int .i64 (if 0 ≤ mode ∧ mode ≤ 4 then 0 else 20)]) ∧ Below w.heap.size w w' := by
  have HN := hid (fun (w : World) => NNewZ n w h1 h2)
  have hlt := iMag32_lt n mode
  obtain ⟨X, hX⟩ : ∃ X, Hid (iMag32 n mode = X) := ⟨_, rfl⟩
  obtain ⟨Y, hY⟩ : ∃ Y, Hid (iFl32 n mode = Y) := ⟨_, rfl⟩
  obtain ⟨E, hE⟩ : ∃ E : Int, Hid ((if 0 ≤ mode ∧ mode ≤ 4 then 0 else 20) = E) := ⟨_, rfl⟩
  have HF : Hid (∀ W p, NumAt W p n 2 → Calls Tryz.prog 36 #[.agg #[.int .i64 24, .int .i64 (-126), .int .i64 127, .int .i64 8], .pointer (some ⟨p, 0, none⟩), .int .i64 mode] W fun r w' => r = .returned (.tuple #[.int .u64 X, .int .i64 Y, .int .i64 E]) ∧ Hid (Below W.heap.size W w')) := fun W p h => by
    rw [← hX.out, ← hY.out, ← hE.out]
    exact from32_all p 2 n mode W h (by decide)
  rw [hX.out] at hlt
  rw [hX.out, hY.out, hE.out]
  have hw : IntKind.u32.wrap (X : Int) = (X : Int) := by rw [IntKind.wrap_u32]; omega
  clear h1 h2 hlt
  go_enter Tryz.func12, Tryz.ntmps12
  go_wp2_with fail
  refine (Single_any _).mono ?_
  rintro r w1 ⟨rfl, b1⟩
  have B1 := hid b1
  clear b1
  go_wp2_with fail
  refine (HN.out _).mono ?_
  rintro r w2 ⟨rfl, h2, b2⟩
  have H2 := hid h2
  have B2 := hid (bl_then B1.out b2)
  clear h2 b2
  go_wp2_with fail
  refine (HF.out _ _ H2.out).mono ?_
  rintro r w3 ⟨rfl, B3⟩
  go_wp2
  go_ret3
  exact ⟨rfl, bl_then B2.out B3.out⟩
end Go.Proofs.YtdhifmkfdpbpcaaGreatDoor

namespace Go.Proofs.YtdhifmkfdpbpcaaGreatDoor
open Go.ChangeShapes Go.WideShapes Go.ChangeAt Go.RowKit

set_option maxHeartbeats 400000 in
theorem fromWhole32_core (neg : Bool) (m X : Nat) (e mode Y : Int) (w : World) (hm1 : 0 ≤ mode) (hm2 : mode ≤ 4) (hT : Tab w) (hs : 1 < w.heap.size)
    (h : ∀ w, Tab w → 1 < w.heap.size → Calls Tryz.prog 82 #[.agg #[.bool neg, .int .u64 m, .int .i64 e], .agg #[.int .i64 24, .int .i64 (-126), .int .i64 127], .int .i64 mode] w fun r w' => r = .returned (.tuple #[.float .f64 X, .int .i64 Y]) ∧ Below w.heap.size w w') :
    Calls Tryz.prog 33 #[.agg #[.bool neg, .int .u64 m, .int .i64 e], .agg #[.int .i64 24, .int .i64 (-126), .int .i64 127], .int .i64 mode] w fun r w' => r = .returned (.tuple #[.float .f64 X, .int .i64 Y, .int .i64 0]) ∧ Below w.heap.size w w' := by
  have hk : decide (0 ≤ mode ∧ mode ≤ 4) = true := decide_eq_true ⟨hm1, hm2⟩
  have H := hid h
  clear h hm1 hm2
  go_enter Tryz.func33, Tryz.ntmps33
  go_wp2_with fail
  refine (known_any mode _).mono ?_
  rintro r w1 ⟨rfl, rfl⟩
  rw [hk]
  clear hk
  go_wp2_with fail
  refine (H.out _ ?_ ?_).mono ?_
  · refine hT.below hs ?_
    repeat (first | exact Below.refl _ _ | refine bl_al ?_ _)
  · first | (simp; done) | (simp; omega)
  rintro r w2 ⟨rfl, hb⟩
  go_wp2
  go_ret3
  refine ⟨rfl, bl_then ?_ hb⟩
  repeat (first | exact Below.refl _ _ | refine bl_al ?_ _)
set_option maxHeartbeats 400000 in
theorem fromWhole_bad (neg : Bool) (m : Nat) (e mode P L H : Int) (w : World) (hm : ¬ (0 ≤ mode ∧ mode ≤ 4)) :
    Calls Tryz.prog 33 #[.agg #[.bool neg, .int .u64 m, .int .i64 e], .agg #[.int .i64 P, .int .i64 L, .int .i64 H], .int .i64 mode] w fun r w' => r = .returned (.tuple #[.float .f64 0, .int .i64 0, .int .i64 20]) ∧ Below w.heap.size w w' := by
  have hk : decide (0 ≤ mode ∧ mode ≤ 4) = false := decide_eq_false hm
  clear hm
  go_enter Tryz.func33, Tryz.ntmps33
  go_wp2_with fail
  refine (known_any mode _).mono ?_
  rintro r w1 ⟨rfl, rfl⟩
  rw [hk]
  clear hk
  go_wp2
  go_ret3
  refine ⟨rfl, ?_⟩
  repeat (first | exact Below.refl _ _ | refine bl_al ?_ _)
set_option maxHeartbeats 400000 in
theorem stepsOf_nil32 (neg : Bool) (mode : Int) (w : World) :
    Calls Tryz.prog 50 #[.agg #[.bool neg, .int .u64 0, .int .i64 0], .int .i64 (-24), .int .i64 mode] w fun r w' => r = .returned (.tuple #[.int .u64 0, .int .i64 0]) ∧ Below w.heap.size w w' := by
  have HC := hid (fun (w : World) => cut_low neg 0 24 0 w (by decide) (by decide))
  go_enter Tryz.func50, Tryz.ntmps50
  go_wp2_with fail
  refine (HC.out _).mono ?_
  rintro r w1 ⟨rfl, hb⟩
  go_wp2
  go_ret2
  exact ⟨rfl, bl_alloc hb⟩
set_option maxHeartbeats 400000 in
theorem round32_nil (neg : Bool) (mode : Int) (w : World) (hT : Tab w) (hs : 1 < w.heap.size) :
    Calls Tryz.prog 82 #[.agg #[.bool neg, .int .u64 0, .int .i64 0], .agg #[.int .i64 24, .int .i64 (-126), .int .i64 127], .int .i64 mode] w fun r w' => r = .returned (.tuple #[.float .f64 (signN neg 0), .int .i64 0]) ∧ Below w.heap.size w w' := by
  have HO := hid (fun (w : World) hT hs => Of_good64 neg 0 (-24) w (by decide) (by decide) (by rw [bitLen_zero]; decide) hT hs)
  have hw0 : wMag 0 (-24) = 0 := by unfold wMag; rw [if_pos rfl]
  rw [hw0] at HO
  go_enter Tryz.func82, Tryz.ntmps82
  go_wp2_with fail
  go_quiet (first | (go_at_call 123; exact Calls.quiet_of_same (len_zero _)))
  go_wp2_with fail
  refine (stepsOf_nil32 neg mode _).mono ?_
  rintro r w1 ⟨rfl, hb⟩
  obtain ⟨hcl, hf⟩ := bcell hb
  have hz : w.heap.size + 1 < w1.heap.size := by have := hb.size; simp at this; omega
  have hcells : (w1.cell? ⟨w.heap.size, 0, none⟩ = some (.bool neg) ∧ w1.cell? ⟨w.heap.size + 1, 0, none⟩ = some (.int .i64 24) ∧ w1.cell? ⟨w.heap.size + 1, 1, none⟩ = some (.int .i64 (-126)) ∧ w1.cell? ⟨w.heap.size + 1, 2, none⟩ = some (.int .i64 127)) := by
    refine ⟨?_, ?_, ?_, ?_⟩ <;> (rw [hcl _ _ (by simp <;> omega)]; simp [go_sem])
  obtain ⟨c0, c1, c2, c3⟩ := hcells
  have hbb : Hid (Below w.heap.size w w1) := by
    refine bl_then ?_ hb
    repeat (first | exact Below.refl _ _ | refine bl_al ?_ _ | refine bl_drewN _ ?_ | refine Below.drew ?_ | refine Below.setCell ?_ (by simp) _)
  clear hcl hf hb
  go_wp2_with fail
  go_quiet (first | (go_at_call 123; exact Calls.quiet_of_same (len_zero _)))
  go_wp2_with fail
  refine (HO.out _ (hT.below hs (bl_drewN _ hbb.out)) ?_).mono ?_
  · have := hbb.out.size; first | (simp; omega) | omega
  rintro r w2 ⟨rfl, hb2⟩
  go_wp2
  go_ret2
  exact ⟨rfl, bl_then (bl_drewN _ hbb.out) hb2⟩
/-- What convert's own rounding of a whole number m of sign neg comes to, of binary64 and of binary32 (in a float64). -/
def fwMag (neg : Bool) (m : Nat) (mode : Int) : Nat := if 0 ≤ mode ∧ mode ≤ 4 then signN neg (if m = 0 then 0 else rMag 53 (-1022) 1023 m 0 mode neg) else 0
def fwFl (neg : Bool) (m : Nat) (mode : Int) : Int := if 0 ≤ mode ∧ mode ≤ 4 then (if m = 0 then 0 else rFlag 53 (-1022) 1023 m 0 mode neg) else 0
def fwMag32 (neg : Bool) (m : Nat) (mode : Int) : Nat := if 0 ≤ mode ∧ mode ≤ 4 then signN neg (if m = 0 then 0 else rMag 24 (-126) 127 m 0 mode neg) else 0
def fwFl32 (neg : Bool) (m : Nat) (mode : Int) : Int := if 0 ≤ mode ∧ mode ≤ 4 then (if m = 0 then 0 else rFlag 24 (-126) 127 m 0 mode neg) else 0
theorem fromWhole64_all (neg : Bool) (m : Nat) (mode : Int) (w : World) (hm : m < 18446744073709551616) (hT : Tab w) (hs : 1 < w.heap.size) :
    Calls Tryz.prog 33 #[.agg #[.bool neg, .int .u64 m, .int .i64 0], .agg #[.int .i64 53, .int .i64 (-1022), .int .i64 1023], .int .i64 mode] w fun r w' => r = .returned (.tuple #[.float .f64 (fwMag neg m mode), .int .i64 (fwFl neg m mode), .int .i64 (if 0 ≤ mode ∧ mode ≤ 4 then 0 else 20)]) ∧ Below w.heap.size w w' := by
  unfold fwMag fwFl
  by_cases h : 0 ≤ mode ∧ mode ≤ 4
  · rw [if_pos h, if_pos h, if_pos h]
    by_cases h0 : m = 0
    · subst h0
      rw [if_pos rfl, if_pos rfl]
      exact fromWhole64_core neg 0 _ 0 mode _ w h.1 h.2 hT hs (fun w hT hs => round64_nil neg mode w hT hs)
    · rw [if_neg h0, if_neg h0]
      exact fromWhole64_core neg m _ 0 mode _ w h.1 h.2 hT hs (fun w hT hs => round64_any neg m 0 mode w hm h0 (by decide) (by decide) hT hs)
  · rw [if_neg h, if_neg h, if_neg h]
    exact fromWhole_bad neg m 0 mode 53 (-1022) 1023 w h
theorem fromWhole32_all (neg : Bool) (m : Nat) (mode : Int) (w : World) (hm : m < 18446744073709551616) (hT : Tab w) (hs : 1 < w.heap.size) :
    Calls Tryz.prog 33 #[.agg #[.bool neg, .int .u64 m, .int .i64 0], .agg #[.int .i64 24, .int .i64 (-126), .int .i64 127], .int .i64 mode] w fun r w' => r = .returned (.tuple #[.float .f64 (fwMag32 neg m mode), .int .i64 (fwFl32 neg m mode), .int .i64 (if 0 ≤ mode ∧ mode ≤ 4 then 0 else 20)]) ∧ Below w.heap.size w w' := by
  unfold fwMag32 fwFl32
  by_cases h : 0 ≤ mode ∧ mode ≤ 4
  · rw [if_pos h, if_pos h, if_pos h]
    by_cases h0 : m = 0
    · subst h0
      rw [if_pos rfl, if_pos rfl]
      exact fromWhole32_core neg 0 _ 0 mode _ w h.1 h.2 hT hs (fun w hT hs => round32_nil neg mode w hT hs)
    · rw [if_neg h0, if_neg h0]
      exact fromWhole32_core neg m _ 0 mode _ w h.1 h.2 hT hs (fun w hT hs => round32_any neg m 0 mode w hm h0 (by decide) (by decide) hT hs)
  · rw [if_neg h, if_neg h, if_neg h]
    exact fromWhole_bad neg m 0 mode 24 (-126) 127 w h
theorem partsOfInt_all (n : Int) (w : World) (h1 : -9223372036854775808 ≤ n) (h2 : n ≤ 9223372036854775807) :
    Calls Tryz.prog 34 #[.int .i64 n] w fun r w' => r = .returned (.agg #[.bool (decide (n < 0)), .int .u64 n.natAbs, .int .i64 0]) ∧ Below w.heap.size w w' := by
  by_cases h : 0 ≤ n
  · obtain ⟨k, rfl⟩ := Int.eq_ofNat_of_zero_le h
    rw [decide_eq_false (by omega), show ((k : Int)).natAbs = k by omega]
    exact partsOfInt_pos k w (by omega)
  · obtain ⟨k, hk⟩ := Int.eq_ofNat_of_zero_le (show 0 ≤ -n by omega)
    obtain rfl : n = -(k : Int) := by omega
    rw [decide_eq_true (by omega), show (-(k : Int)).natAbs = k by omega]
    exact partsOfInt_neg k w (by omega) (by omega)
theorem fw_is (v mode : Int) : fwMag (decide (v < 0)) v.natAbs mode = iMag64 v mode ∧ fwFl (decide (v < 0)) v.natAbs mode = iFl64 v mode := by
  unfold fwMag fwFl iMag64 iFl64
  by_cases h : 0 ≤ mode ∧ mode ≤ 4
  · rw [if_pos h, if_pos h, if_pos h, if_pos h]
    by_cases h0 : v = 0
    · subst h0
      rw [if_pos (show (0 : Int).natAbs = 0 by decide), if_pos (show (0 : Int).natAbs = 0 by decide), if_pos rfl, if_pos rfl]
      exact ⟨by decide, rfl⟩
    · have hn : v.natAbs ≠ 0 := by omega
      rw [if_neg hn, if_neg hn, if_neg h0, if_neg h0, docR64_is v.natAbs 0 mode _ hn h.1 h.2]
      exact ⟨rfl, rfl⟩
  · rw [if_neg h, if_neg h, if_neg h, if_neg h]
    exact ⟨rfl, rfl⟩
theorem fw_conv (v mode : Int) : floatToFloatBits .f64 (fwMag32 (decide (v < 0)) v.natAbs mode) .f32 = some (iMag32 v mode) ∧ fwFl32 (decide (v < 0)) v.natAbs mode = iFl32 v mode := by
  unfold fwMag32 fwFl32 iMag32 iFl32
  by_cases h : 0 ≤ mode ∧ mode ≤ 4
  · rw [if_pos h, if_pos h, if_pos h, if_pos h]
    by_cases h0 : v = 0
    · subst h0
      rw [if_pos (show (0 : Int).natAbs = 0 by decide), if_pos (show (0 : Int).natAbs = 0 by decide), if_pos rfl, if_pos rfl]
      exact ⟨by decide +kernel, rfl⟩
    · have hn : v.natAbs ≠ 0 := by omega
      rw [if_neg hn, if_neg hn, if_neg h0, if_neg h0, docR32_is v.natAbs 0 mode _ hn h.1 h.2]
      exact ⟨(n_conv v.natAbs 0 mode _).1, rfl⟩
  · rw [if_neg h, if_neg h, if_neg h, if_neg h]
    exact ⟨by decide +kernel, rfl⟩
set_option maxHeartbeats 400000 in
theorem FromInt_all (n mode : Int) (w : World) (h1 : -9223372036854775808 ≤ n) (h2 : n ≤ 9223372036854775807) (hT : Tab w) (hs : 1 < w.heap.size) :
    Calls Tryz.prog 6 #[.int .i64 n, .int .i64 mode] w fun r w' => r = .returned (.tuple #[.float .f64 (iMag64 n mode), .int .i64 (iFl64 n mode), .int .i64 (if 0 ≤ mode ∧ mode ≤ 4 then 0 else 20)]) ∧ Below w.heap.size w w' := by
  have HP := hid (fun (w : World) => partsOfInt_all n w h1 h2)
  have H := hid (fun (w : World) hT hs => fromWhole64_all (decide (n < 0)) n.natAbs mode w (by omega) hT hs)
  rw [(fw_is n mode).1, (fw_is n mode).2] at H
  obtain ⟨X, hX⟩ : ∃ X, Hid (iMag64 n mode = X) := ⟨_, rfl⟩
  obtain ⟨Y, hY⟩ : ∃ Y, Hid (iFl64 n mode = Y) := ⟨_, rfl⟩
  obtain ⟨E, hE⟩ : ∃ E : Int, Hid ((if 0 ≤ mode ∧ mode ≤ 4 then 0 else 20) = E) := ⟨_, rfl⟩
  obtain ⟨B, hB⟩ : ∃ B : Bool, Hid (decide (n < 0) = B) := ⟨_, rfl⟩
  obtain ⟨M, hM⟩ : ∃ M : Nat, Hid (n.natAbs = M) := ⟨_, rfl⟩
  rw [hX.out, hY.out, hE.out] at H ⊢
  rw [hB.out, hM.out] at H HP
  clear h1 h2
  go_enter Tryz.func6, Tryz.ntmps6
  go_wp2_with fail
  refine (HP.out _).mono ?_
  rintro r w1 ⟨rfl, hb1⟩
  go_wp2_with fail
  refine (binary64_any _).mono ?_
  rintro r w2 ⟨rfl, hb2⟩
  go_wp2_with fail
  refine (H.out _ (hT.below hs (bl_then hb1 hb2)) (Nat.lt_of_lt_of_le hs (bl_then hb1 hb2).size)).mono ?_
  rintro r w3 ⟨rfl, hb3⟩
  go_wp2
  go_ret3
  exact ⟨rfl, bl_then (bl_then hb1 hb2) hb3⟩
set_option maxHeartbeats 400000 in
theorem FromUint_all (n : Nat) (mode : Int) (w : World) (h1 : n < 18446744073709551616) (hT : Tab w) (hs : 1 < w.heap.size) :
    Calls Tryz.prog 9 #[.int .u64 n, .int .i64 mode] w fun r w' => r = .returned (.tuple #[.float .f64 (iMag64 n mode), .int .i64 (iFl64 n mode), .int .i64 (if 0 ≤ mode ∧ mode ≤ 4 then 0 else 20)]) ∧ Below w.heap.size w w' := by
  have H := hid (fun (w : World) hT hs => fromWhole64_all (decide ((n : Int) < 0)) ((n : Int)).natAbs mode w (by omega) hT hs)
  rw [(fw_is n mode).1, (fw_is n mode).2, decide_eq_false (show ¬ (n : Int) < 0 by omega), show ((n : Int)).natAbs = n by omega] at H
  obtain ⟨X, hX⟩ : ∃ X, Hid (iMag64 n mode = X) := ⟨_, rfl⟩
  obtain ⟨Y, hY⟩ : ∃ Y, Hid (iFl64 n mode = Y) := ⟨_, rfl⟩
  obtain ⟨E, hE⟩ : ∃ E : Int, Hid ((if 0 ≤ mode ∧ mode ≤ 4 then 0 else 20) = E) := ⟨_, rfl⟩
  rw [hX.out, hY.out, hE.out] at H ⊢
  clear h1
  go_enter Tryz.func9, Tryz.ntmps9
  go_wp2_with fail
  refine (binary64_any _).mono ?_
  rintro r w2 ⟨rfl, hb2⟩
  have HB2 : Hid (Below w.heap.size w w2) := by first | exact hb2 | exact bl_then (al_below _ _) hb2
  clear hb2
  go_wp2_with fail
  refine (H.out _ (hT.below hs (by repeat (first | exact HB2.out | refine bl_al ?_ _ | refine bl_drewN _ ?_ | refine Below.drew ?_ | refine Below.setCell ?_ (by simp) _))) ?_).mono ?_
  · have := HB2.out.size; first | (simp; omega) | omega
  rintro r w3 ⟨rfl, hb3⟩
  go_wp2
  go_ret3
  refine ⟨rfl, bl_then ?_ hb3⟩
  repeat (first | exact HB2.out | refine bl_al ?_ _ | refine bl_drewN _ ?_ | refine Below.drew ?_ | refine Below.setCell ?_ (by simp) _)
set_option maxHeartbeats 400000 in
theorem NarrowInt_all (n mode : Int) (w : World) (h1 : -9223372036854775808 ≤ n) (h2 : n ≤ 9223372036854775807) (hT : Tab w) (hs : 1 < w.heap.size) :
    Calls Tryz.prog 11 #[.int .i64 n, .int .i64 mode] w fun r w' => r = .returned (.tuple #[.float .f32 (iMag32 n mode), .int .i64 (iFl32 n mode), .int .i64 (if 0 ≤ mode ∧ mode ≤ 4 then 0 else 20)]) ∧ Below w.heap.size w w' := by
  have HP := hid (fun (w : World) => partsOfInt_all n w h1 h2)
  have H := hid (fun (w : World) hT hs => fromWhole32_all (decide (n < 0)) n.natAbs mode w (by omega) hT hs)
  obtain ⟨hc0, hc1⟩ := fw_conv n mode
  rw [hc1] at H
  obtain ⟨Z, hZ⟩ : ∃ Z, Hid (fwMag32 (decide (n < 0)) n.natAbs mode = Z) := ⟨_, rfl⟩
  rw [hZ.out] at H hc0
  obtain ⟨X, hX⟩ : ∃ X, Hid (iMag32 n mode = X) := ⟨_, rfl⟩
  obtain ⟨Y, hY⟩ : ∃ Y, Hid (iFl32 n mode = Y) := ⟨_, rfl⟩
  obtain ⟨E, hE⟩ : ∃ E : Int, Hid ((if 0 ≤ mode ∧ mode ≤ 4 then 0 else 20) = E) := ⟨_, rfl⟩
  obtain ⟨B, hB⟩ : ∃ B : Bool, Hid (decide (n < 0) = B) := ⟨_, rfl⟩
  obtain ⟨M, hM⟩ : ∃ M : Nat, Hid (n.natAbs = M) := ⟨_, rfl⟩
  rw [hX.out] at hc0
  rw [hY.out, hE.out] at H
  rw [hX.out, hY.out, hE.out]
  rw [hB.out, hM.out] at H HP
  have hc := conv_run Z X hc0
  clear h1 h2 hc0 hc1
  go_enter Tryz.func11, Tryz.ntmps11
  go_wp2_with fail
  refine (HP.out _).mono ?_
  rintro r w1 ⟨rfl, hb1⟩
  go_wp2_with fail
  refine (binary32_any _).mono ?_
  rintro r w2 ⟨rfl, hb2⟩
  go_wp2_with fail
  refine (H.out _ (hT.below hs (bl_then hb1 hb2)) (Nat.lt_of_lt_of_le hs (bl_then hb1 hb2).size)).mono ?_
  rintro r w3 ⟨rfl, hb3⟩
  go_wp2
  go_ret3
  exact ⟨rfl, bl_then (bl_then hb1 hb2) hb3⟩
set_option maxHeartbeats 400000 in
theorem is32_i (a : Nat) (w : World) :
    Calls Tryz.prog 43 #[.float .f32 a, .int .u32 a] w fun e w' => e = .returned (.bool true) ∧ w' = w := by
  have h2 := f64bits32
  go_enter Tryz.func43, Tryz.ntmps43
  go_wp2
  go_ret
  exact ⟨by simp, rfl⟩
set_option maxHeartbeats 400000 in
theorem is64_i (a : Nat) (w : World) :
    Calls Tryz.prog 39 #[.float .f64 a, .int .u64 a] w fun e w' => e = .returned (.bool true) ∧ w' = w := by
  have h2 := f64bits
  go_enter Tryz.func39, Tryz.ntmps39
  go_wp2
  go_ret
  exact ⟨by simp, rfl⟩
set_option maxHeartbeats 400000 in
theorem told32_i (a : Nat) (k e : Int) (w : World) :
    Calls Tryz.prog 13 #[.float .f32 a, .int .i64 k, .int .i64 e, .int .u32 a, .int .i64 k, .int .i64 e] w fun r w' => r = .returned (.bool true) ∧ w' = w := by
  go_enter Tryz.func13, Tryz.ntmps13
  go_wp2_with fail
  refine (is32_i a _).mono ?_
  rintro r w1 ⟨rfl, rfl⟩
  go_wp2
  go_ret
  exact ⟨by simp, rfl⟩
set_option maxHeartbeats 400000 in
theorem told64_i (a : Nat) (k e : Int) (w : World) :
    Calls Tryz.prog 8 #[.float .f64 a, .int .i64 k, .int .i64 e, .int .u64 a, .int .i64 k, .int .i64 e] w fun r w' => r = .returned (.bool true) ∧ w' = w := by
  go_enter Tryz.func8, Tryz.ntmps8
  go_wp2_with fail
  refine (is64_i a _).mono ?_
  rintro r w1 ⟨rfl, rfl⟩
  go_wp2
  go_ret
  exact ⟨by simp, rfl⟩
set_option maxHeartbeats 1000000 in
theorem ints_law (i : Int) (u : Nat) (mode : Int) (w : World) (hi : -9223372036854775808 ≤ i ∧ i ≤ 9223372036854775807) (hu : u < 18446744073709551616) (_hm : -9223372036854775808 ≤ mode ∧ mode ≤ 9223372036854775807) (hT : Tab w) (hs : 1 < w.heap.size) :
    Calls Tryz.prog 3 #[.int .i64 i, .int .u64 u, .int .i64 mode] w fun r w' => r = .returned (.bool true) ∧ Below w.heap.size w w' := by
  have H1 := hid (fun (w : World) hT hs => FromInt_all i mode w hi.1 hi.2 hT hs)
  have H2 := hid (fun (w : World) => rFromInt_any i mode w hi.1 hi.2)
  have H3 := hid (fun (w : World) hT hs => FromUint_all u mode w hu hT hs)
  have H4 := hid (fun (w : World) => rFromUint_any u mode w hu)
  have H5 := hid (fun (w : World) hT hs => NarrowInt_all i mode w hi.1 hi.2 hT hs)
  have H6 := hid (fun (w : World) => rNarrowInt_any i mode w hi.1 hi.2)
  obtain ⟨X1, hX1⟩ : ∃ X, Hid (iMag64 i mode = X) := ⟨_, rfl⟩
  obtain ⟨Y1, hY1⟩ : ∃ X, Hid (iFl64 i mode = X) := ⟨_, rfl⟩
  obtain ⟨X2, hX2⟩ : ∃ X, Hid (iMag64 u mode = X) := ⟨_, rfl⟩
  obtain ⟨Y2, hY2⟩ : ∃ X, Hid (iFl64 u mode = X) := ⟨_, rfl⟩
  obtain ⟨X3, hX3⟩ : ∃ X, Hid (iMag32 i mode = X) := ⟨_, rfl⟩
  obtain ⟨Y3, hY3⟩ : ∃ X, Hid (iFl32 i mode = X) := ⟨_, rfl⟩
  obtain ⟨E, hE⟩ : ∃ E : Int, Hid ((if 0 ≤ mode ∧ mode ≤ 4 then 0 else 20) = E) := ⟨_, rfl⟩
  rw [hX1.out, hY1.out, hE.out] at H1 H2
  rw [hX2.out, hY2.out, hE.out] at H3 H4
  rw [hX3.out, hY3.out, hE.out] at H5 H6
  clear hi hu _hm
  go_enter Tryz.func3, Tryz.ntmps3
  go_wp2_with fail
  refine (H1.out _ hT hs).mono ?_
  rintro r w1 ⟨rfl, b1⟩
  have B1 := hid b1
  clear b1
  go_wp2_with fail
  refine (H2.out _).mono ?_
  rintro r w2 ⟨rfl, b2⟩
  have B2 := hid (bl_then B1.out b2)
  clear b2
  go_wp2_with fail
  refine (told64_i X1 Y1 E _).mono ?_
  rintro r w3 ⟨rfl, rfl⟩
  go_wp2_with fail
  refine (H3.out _ (hT.below hs B2.out) (Nat.lt_of_lt_of_le hs B2.out.size)).mono ?_
  rintro r w4 ⟨rfl, b4⟩
  have B4 := hid (bl_then B2.out b4)
  clear b4
  go_wp2_with fail
  refine (H4.out _).mono ?_
  rintro r w5 ⟨rfl, b5⟩
  have B5 := hid (bl_then B4.out b5)
  clear b5
  go_wp2_with fail
  refine (told64_i X2 Y2 E _).mono ?_
  rintro r w6 ⟨rfl, rfl⟩
  go_wp2_with fail
  refine (H5.out _ (hT.below hs B5.out) (Nat.lt_of_lt_of_le hs B5.out.size)).mono ?_
  rintro r w7 ⟨rfl, b7⟩
  have B7 := hid (bl_then B5.out b7)
  clear b7
  go_wp2_with fail
  refine (H6.out _).mono ?_
  rintro r w8 ⟨rfl, b8⟩
  have B8 := hid (bl_then B7.out b8)
  clear b8
  go_wp2_with fail
  refine (told32_i X3 Y3 E _).mono ?_
  rintro r w9 ⟨rfl, rfl⟩
  go_wp2_with fail
  refine (awake2_any _ (hT.below hs B8.out) (Nat.lt_of_lt_of_le hs B8.out.size)).mono ?_
  rintro r w12 ⟨rfl, b12⟩
  have B12 := hid (bl_then B8.out b12)
  clear b12
  go_wp2
  go_ret
  exact ⟨rfl, B12.out⟩

set_option maxRecDepth 100000 in
theorem convertInts_lifted (os : Os) (started : os.Started) (H : Type) (enc : TypeId × Value → H) :
    ReturnsInHanded {} Tryz.checked os 3 .any (fun w args => (Rows.convertIntsSpec.pre enc Tryz.prog Tryz.f3 [] false w args ∧ laidMetH Tryz.prog [("math/bits.deBruijn64tab", Rows.laid_math_bits_deBruijn64tab)] w) ∧ sizedMet enc Tryz.prog Tryz.f3 (OpenSpec.ofChange Rows.convertIntsSpec) false w args)
      (Rows.convertIntsSpec.post enc Tryz.prog Tryz.f3 false true false false) := by
  refine returnsInHanded_of_change_and (C := Tryz.checked) (X := fun w _ => laidMetH Tryz.prog [("math/bits.deBruijn64tab", Rows.laid_math_bits_deBruijn64tab)] w) (fun _ _ _ hh h => h.of_heap hh) own started (by kernel_rfl) Tryz.func3
    (ChangeSpec.witness_shaped (enc := enc) (C := Tryz.checked) (os := os) (X := fun w _ => laidMetH Tryz.prog [("math/bits.deBruijn64tab", Rows.laid_math_bits_deBruijn64tab)] w) false (World.doorLaid Tryz.prog 400 os) #[.int .i64 0, .int .u64 0, .int .i64 0] 8 rfl (World.shaped_of_RefB (by kernel_rfl) (by kernel_rfl)) (by kernel_rfl) (by kernel_rfl) (by kernel_rfl) (door_met os _)) ?_
  intro W base args ds gs before hval0 hW _ _ hL _
  have hval : ∀ (j : Nat) t v, Tryz.f3.params[j]? = some t → args[j]? = some v → Value.okWide Tryz.prog W .any base t v := hval0
  have hW' := hW
  obtain ⟨p, q, hA0, hV, rfl, hfz, hnd⟩ := hW
  have hA : DataW.TrodAll enc Tryz.prog W 0 (fun _ => true) true Tryz.f3.params.toList args.toList ds p := hA0
  rw [Tryz.params3] at hA hval
  obtain ⟨v0, vs0, d0, ds0, p0, q0, hargs, rfl, rfl, h0, r0⟩ := trodAll_cons hA
  obtain ⟨v1, vs1, d1, ds1, p1, q1, rfl, rfl, rfl, h1, r1⟩ := trodAll_cons r0
  obtain ⟨v2, vs2, d2, ds2, p2, q2, rfl, rfl, rfl, h2, r2⟩ := trodAll_cons r1
  obtain ⟨rfl, rfl, rfl⟩ := trodAll_nil r2
  obtain rfl : args = #[v0, v1, v2] := by cases args; simp_all
  obtain ⟨rfl, rfl⟩ := trodVars_none hV
  obtain ⟨a0, rfl, rfl, rfl, w0⟩ := open_int Tryz.underlying2 (hval 0 2 v0 rfl rfl) h0
  obtain ⟨a1, rfl, rfl, rfl, w1⟩ := open_int Tryz.underlying22 (hval 1 22 v1 rfl rfl) h1
  obtain ⟨n1, rfl⟩ := Int.eq_ofNat_of_zero_le (bounds_u64 w1).1
  have l1 : n1 < 18446744073709551616 := by have := (bounds_u64 w1).2; omega
  obtain ⟨a2, rfl, rfl, rfl, w2⟩ := open_int Tryz.underlying3 (hval 2 3 v2 rfl rfl) h2
  obtain ⟨hT, hs⟩ := tab_of_laid hL
  clear hA0 hval0
  simp only [List.append_nil] at hW'
  refine (ints_law a0 n1 a2 W (bounds_i64 w0) l1 (bounds_i64 w2) hT hs).mono fun e W' ⟨he, bel⟩ => ?_
  subst he
  exact ⟨_, rfl, _, _, _, [], [], [], hW', trodAll_mk1 (shut_bool Tryz.underlying4 _), (trodAll_cons_mk (shut_int Tryz.underlying2 w0) (trodAll_cons_mk (shut_int Tryz.underlying22 w1) (trodAll_cons_mk (shut_int Tryz.underlying3 w2) trodAll_mk0))), rfl, bel.frame _, fun h => by cases h⟩

theorem convertInts_row : Rows.ConvertIntsSaid :=
  OpenClaim.holds_of_wide 3 Tryz.f3 rfl rfl rfl rfl rfl rfl rfl ⟨rfl, rfl, rfl, rfl, rfl⟩ rfl rfl rfl rfl rfl (by kernel_rfl) Tryz.func3 (by kernel_rfl)
    (of_decide_eq_true (by kernel_rfl)) (by unfold Func.isWrapper; first | (rw [if_pos (by decide +kernel)]; kernel_rfl) | (rw [if_neg (by decide +kernel)]; exact ⟨rfl, rfl⟩))
    (fun os started H enc _ => convertInts_lifted os started H enc)

theorem convertInts_card : Rows.ConvertIntsCardSaid :=
  Claim7.holds_tied_plain_at .later [] [.data] true (true, "c103543678555e16baa3ea70a7d4ae6a5aa49052f23c365a4eb55b330a6baded") false
    convertInts_row (fun _ h => by cases h) (by kernel_rfl) (fun _ h => by cases h) convertInts_row_tie rfl ⟨rfl, rfl⟩ (by kernel_rfl) rfl
    (fun f fn hf hfn => by
      obtain rfl : f = 3 := Option.some.inj ((show Tryz.prog.funcNamed "binnacle/binnaclelaw02.ConvertInts" = some 3 by kernel_rfl).symm.trans hf) |>.symm
      obtain rfl : fn = Tryz.f3 := (Option.some.inj (Tryz.func3.symm.trans hfn)).symm
      exact ⟨by kernel_rfl, fun j t ht => by
        rw [Tryz.params3] at ht
        have hm : t ∈ [2, 22, 3] := by simpa using Array.mem_of_getElem? ht
        have hall : ([2, 22, 3].all fun u => !Tryz.prog.wantsStandIn u) = true := by kernel_rfl
        exact (show Tryz.prog.wantsStandIn t = false by simpa using List.all_eq_true.1 hall t hm)⟩)
    (by kernel_rfl)
#print axioms convertInts_card
end Go.Proofs.YtdhifmkfdpbpcaaGreatDoor
