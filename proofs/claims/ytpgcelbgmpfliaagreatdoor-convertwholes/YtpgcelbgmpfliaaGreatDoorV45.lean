
/- What the document's Uint does, over within; within of what isn't finite. -/
import Derived.Test.YtpgcelbgmpfliaaGreatDoorV44
namespace Go.Proofs.YtpgcelbgmpfliaaGreatDoor
open Go.RowKit Go.IntWalk

set_option maxHeartbeats 2000000 in
theorem rUint_core (x n V : Nat) (F mode : Int) (w : World) (hm : 0 ≤ mode ∧ mode ≤ 4) (hn : n = 8 ∨ n = 16 ∨ n = 32 ∨ n = 64) (hV2 : V < 18446744073709551616)
    (hW : ∀ W lo hi, NumAt W lo 0 80 → NumAt W hi ((2 ^ n - 1 : Nat) : Int) 80 → Calls Tryz.prog 65 #[.int .u64 x, .pointer (some ⟨lo, 0, none⟩), .pointer (some ⟨hi, 0, none⟩), .int .i64 mode] W fun r w' => ∃ q, r = .returned (.tuple #[.pointer (some ⟨q, 0, none⟩), .int .i64 F]) ∧ NumAt w' q (V : Int) 80 ∧ Below W.heap.size W w') :
    Calls Tryz.prog 21 #[.int .u64 x, .int .i64 n, .int .i64 mode] w fun r w' => r = .returned (.tuple #[.int .u64 V, .int .i64 F, .int .i64 0]) ∧ Below w.heap.size w w' := by
  have hk : decide (0 ≤ mode ∧ mode ≤ 4) = true := decide_eq_true hm
  have HWI := hid (fun (W : World) => width_ok (n : Int) W (by omega))
  have hs4 : IntKind.u64.wrap (n : Int) = (n : Int) := by rw [IntKind.wrap_u64]; omega
  have HN : Hid (n ≤ 64) := by show n ≤ 64; omega
  have HW := hid hW
  have HI := hid (fun (W : World) q (h : NumAt W q (V : Int) 80) => NUint64 q V 80 W h hV2)
  clear hm hn hV2 hW
  go_enter Tryz.func21, Tryz.ntmps21
  go_wp2_with fail
  refine (Known_any mode _).mono ?_
  rintro r w0 ⟨rfl, rfl⟩
  rw [hk]
  clear hk
  go_wp2_with fail
  refine (HWI.out _).mono ?_
  rintro r w1 ⟨rfl, rfl⟩
  go_wp2_with fail
  refine (NNew 1 _ (by decide)).mono ?_
  rintro r w2 ⟨rfl, h2, b2⟩
  have H2 := hid h2
  have HZ2 := hid ((fresh_num w1).below b2)
  have B2 : Hid (Below w1.heap.size w1 w2) := bl_then (al_below _ _) b2
  have hsz : (w1.alloc (.cells #[.bool false, .slice none 0 0] 73)).heap.size = w1.heap.size + 1 := by simp
  rw [hsz] at H2
  clear h2 b2
  go_wp2_with fail
  refine (NLsh w1.heap.size (w1.heap.size + 1) ((1 : Nat) : Int) n 2 _ HZ2.out.zok H2.out (by decide) (by have := HN.out; omega)).mono ?_
  rintro r w3 ⟨rfl, h3, b3⟩
  rw [one_pow] at h3
  have H3 := hid (h3.more (b2 := 10) (by have := HN.out; omega))
  have B3 : Hid (Below w1.heap.size w1 w3) := B2.out.trans (b3.below B2.out.size (Nat.le_refl _))
  have hl3 := H3.out.lt
  clear h3 b3
  go_wp2_with fail
  refine (NNew 1 _ (by decide)).mono ?_
  rintro r w5 ⟨rfl, h5, b5⟩
  have hsz5 : (w3.alloc (.cells #[.bool false, .slice none 0 0] 73)).heap.size = w3.heap.size + 1 := by simp
  have H5 := hid h5
  rw [hsz5] at H5
  have HZ5 := hid ((fresh_num w3).below b5)
  have H3' := hid ((H3.out.al _).below b5)
  have B5 : Hid (Below w1.heap.size w1 w5) := B3.out.trans ((bl_then (al_below _ _) b5).mono B3.out.size)
  clear h5 b5
  go_wp2_with fail
  refine (NSubSelf w1.heap.size (w3.heap.size + 1) (2 ^ n) 1 10 2 _ H3'.out H5.out (by decide) (by decide) (Nat.two_pow_pos n)).mono ?_
  rintro r w6 ⟨rfl, h6, b6⟩
  have H6 := hid (h6.more (b2 := 80) (by decide))
  have HZ6 : Hid (NumAt w6 w3.heap.size 0 80) := (HZ5.out.but b6 (by omega) H3'.out.zok).more (by decide)
  have B6 : Hid (Below w1.heap.size w1 w6) := B5.out.trans (b6.below B5.out.size (Nat.le_refl _))
  clear h6 b6
  go_wp2_with fail
  refine (HW.out _ _ _ HZ6.out H6.out).mono ?_
  rintro r w7 ⟨q, rfl, h7, b7⟩
  have H7 := hid h7
  have B7 := hid (bl_then B6.out b7)
  clear h7 b7
  go_wp2_with fail
  refine (HI.out _ _ H7.out).mono ?_
  rintro r w8 ⟨rfl, rfl⟩
  go_wp2
  go_ret3
  exact ⟨rfl, B7.out⟩
set_option maxHeartbeats 1000000 in
theorem rwithin_nan (x lo hi : Nat) (E mode : Int) (neg : Bool) (w : World)
    (hT : ∀ W, Calls Tryz.prog 54 #[.agg #[.int .i64 53, .int .i64 (-1022), .int .i64 1023, .int .i64 11], .int .u64 x] W fun r w' => ∃ z, r = .returned (.agg #[.int .i64 2, .bool neg, .pointer (some ⟨z, 0, none⟩), .int .i64 E]) ∧ Below W.heap.size W w') :
    Calls Tryz.prog 65 #[.int .u64 x, .pointer (some ⟨lo, 0, none⟩), .pointer (some ⟨hi, 0, none⟩), .int .i64 mode] w fun r w' => ∃ q, r = .returned (.tuple #[.pointer (some ⟨q, 0, none⟩), .int .i64 8]) ∧ NumAt w' q 0 80 ∧ Below w.heap.size w w' := by
  have HT := hid hT
  clear hT
  go_enter Tryz.func65, Tryz.ntmps65
  go_wp2_with fail
  refine (Double_any _).mono ?_
  rintro r w1 ⟨rfl, b1⟩
  have B1 := hid b1
  clear b1
  go_wp2_with fail
  refine (HT.out _).mono ?_
  rintro r w2 ⟨z, rfl, b2⟩
  have B2 := hid (bl_then B1.out b2)
  clear b2
  go_wp2
  go_ret2
  have hf := (fresh_num (w2.alloc (.cells #[.int .i64 2, .bool neg, .pointer (some ⟨z, 0, none⟩), .int .i64 E] 88))).more (b2 := 80) (by decide)
  have e : (w2.alloc (.cells #[.int .i64 2, .bool neg, .pointer (some ⟨z, 0, none⟩), .int .i64 E] 88)).heap.size = w2.heap.size + 1 := by simp
  rw [e] at hf
  exact ⟨_, rfl, hf, bl_al (bl_al B2.out _) _⟩
set_option maxHeartbeats 1000000 in
theorem rwithin_inf (x lo hi : Nat) (vl vh E mode : Int) (neg : Bool) (w : World) (hlo : NumAt w lo vl 80) (hhi : NumAt w hi vh 80)
    (hT : ∀ W, Calls Tryz.prog 54 #[.agg #[.int .i64 53, .int .i64 (-1022), .int .i64 1023, .int .i64 11], .int .u64 x] W fun r w' => ∃ z, r = .returned (.agg #[.int .i64 1, .bool neg, .pointer (some ⟨z, 0, none⟩), .int .i64 E]) ∧ Below W.heap.size W w') :
    Calls Tryz.prog 65 #[.int .u64 x, .pointer (some ⟨lo, 0, none⟩), .pointer (some ⟨hi, 0, none⟩), .int .i64 mode] w fun r w' => ∃ q, r = .returned (.tuple #[.pointer (some ⟨q, 0, none⟩), .int .i64 8]) ∧ NumAt w' q (if neg = true then vl else vh) 80 ∧ Below w.heap.size w w' := by
  have HT := hid hT
  have HL := hid hlo
  have HH := hid hhi
  clear hT hlo hhi
  cases neg
  all_goals go_enter Tryz.func65, Tryz.ntmps65
  all_goals go_wp2_with fail
  all_goals refine (Double_any _).mono ?_
  all_goals rintro r w1 ⟨rfl, b1⟩
  all_goals have B1 := hid b1
  all_goals clear b1
  all_goals go_wp2_with fail
  all_goals refine (HT.out _).mono ?_
  all_goals rintro r w2 ⟨z, rfl, b2⟩
  all_goals have B2 := hid (bl_then B1.out b2)
  all_goals clear b2
  all_goals go_wp2
  all_goals go_ret2
  · exact ⟨_, rfl, HH.out.below (bl_al B2.out _), bl_al B2.out _⟩
  · exact ⟨_, rfl, HL.out.below (bl_al B2.out _), bl_al B2.out _⟩
set_option maxHeartbeats 400000 in
theorem rInt_mode (x : Nat) (v mode : Int) (w : World) (hm : ¬ (0 ≤ mode ∧ mode ≤ 4)) :
    Calls Tryz.prog 19 #[.int .u64 x, .int .i64 v, .int .i64 mode] w fun r w' => r = .returned (.tuple #[.int .i64 0, .int .i64 0, .int .i64 20]) ∧ Below w.heap.size w w' := by
  have hk : decide (0 ≤ mode ∧ mode ≤ 4) = false := decide_eq_false hm
  clear hm
  go_enter Tryz.func19, Tryz.ntmps19
  go_wp2_with fail
  refine (Known_any mode _).mono ?_
  rintro r w0 ⟨rfl, rfl⟩
  rw [hk]
  clear hk
  go_wp2
  go_ret3
  exact ⟨rfl, Below.refl _ _⟩
set_option maxHeartbeats 400000 in
theorem rUint_mode (x : Nat) (v mode : Int) (w : World) (hm : ¬ (0 ≤ mode ∧ mode ≤ 4)) :
    Calls Tryz.prog 21 #[.int .u64 x, .int .i64 v, .int .i64 mode] w fun r w' => r = .returned (.tuple #[.int .u64 0, .int .i64 0, .int .i64 20]) ∧ Below w.heap.size w w' := by
  have hk : decide (0 ≤ mode ∧ mode ≤ 4) = false := decide_eq_false hm
  clear hm
  go_enter Tryz.func21, Tryz.ntmps21
  go_wp2_with fail
  refine (Known_any mode _).mono ?_
  rintro r w0 ⟨rfl, rfl⟩
  rw [hk]
  clear hk
  go_wp2
  go_ret3
  exact ⟨rfl, Below.refl _ _⟩
set_option maxHeartbeats 400000 in
theorem rInt_width (x : Nat) (v mode : Int) (w : World) (hm : 0 ≤ mode ∧ mode ≤ 4) (hv : ¬ (v = 8 ∨ v = 16 ∨ v = 32 ∨ v = 64)) :
    Calls Tryz.prog 19 #[.int .u64 x, .int .i64 v, .int .i64 mode] w fun r w' => r = .returned (.tuple #[.int .i64 0, .int .i64 0, .int .i64 21]) ∧ Below w.heap.size w w' := by
  have hk : decide (0 ≤ mode ∧ mode ≤ 4) = true := decide_eq_true hm
  have HWI := hid (fun (W : World) => width_bad v W hv)
  clear hm hv
  go_enter Tryz.func19, Tryz.ntmps19
  go_wp2_with fail
  refine (Known_any mode _).mono ?_
  rintro r w0 ⟨rfl, rfl⟩
  rw [hk]
  clear hk
  go_wp2_with fail
  refine (HWI.out _).mono ?_
  rintro r w1 ⟨rfl, rfl⟩
  go_wp2
  go_ret3
  exact ⟨rfl, Below.refl _ _⟩
set_option maxHeartbeats 400000 in
theorem rUint_width (x : Nat) (v mode : Int) (w : World) (hm : 0 ≤ mode ∧ mode ≤ 4) (hv : ¬ (v = 8 ∨ v = 16 ∨ v = 32 ∨ v = 64)) :
    Calls Tryz.prog 21 #[.int .u64 x, .int .i64 v, .int .i64 mode] w fun r w' => r = .returned (.tuple #[.int .u64 0, .int .i64 0, .int .i64 21]) ∧ Below w.heap.size w w' := by
  have hk : decide (0 ≤ mode ∧ mode ≤ 4) = true := decide_eq_true hm
  have HWI := hid (fun (W : World) => width_bad v W hv)
  clear hm hv
  go_enter Tryz.func21, Tryz.ntmps21
  go_wp2_with fail
  refine (Known_any mode _).mono ?_
  rintro r w0 ⟨rfl, rfl⟩
  rw [hk]
  clear hk
  go_wp2_with fail
  refine (HWI.out _).mono ?_
  rintro r w1 ⟨rfl, rfl⟩
  go_wp2
  go_ret3
  exact ⟨rfl, Below.refl _ _⟩
end Go.Proofs.YtpgcelbgmpfliaaGreatDoor
