
/- What the document's Sub does, where a lesser number is taken from a number itself. -/
import Derived.Test.YtpgcelbgmpfliaaGreatDoorV43
import Derived.Test.YtpgcelbgmpfliaaGreatDoorV29
import Derived.Deep.RegionWith
namespace Go.Proofs.YtpgcelbgmpfliaaGreatDoor
open Go.RowKit Go.IntWalk

set_option maxHeartbeats 400000 in
theorem width_ok (v : Int) (w : World) (h : v = 8 ∨ v = 16 ∨ v = 32 ∨ v = 64) :
    Calls Tryz.prog 63 #[.int .i64 v] w fun r w' => r = .returned (.bool true) ∧ w' = w := by
  rcases h with rfl | rfl | rfl | rfl
  all_goals go_enter Tryz.func63, Tryz.ntmps63
  all_goals go_wp2
  all_goals go_ret
  all_goals exact ⟨by first | rfl | simp, rfl⟩
set_option maxHeartbeats 400000 in
theorem width_bad (v : Int) (w : World) (h : ¬ (v = 8 ∨ v = 16 ∨ v = 32 ∨ v = 64)) :
    Calls Tryz.prog 63 #[.int .i64 v] w fun r w' => r = .returned (.bool false) ∧ w' = w := by
  have h1 : (v == 8) = false := by simp; omega
  have h2 : (v == 16) = false := by simp; omega
  have h3 : (v == 32) = false := by simp; omega
  have h4 : (v == 64) = false := by simp; omega
  clear h
  go_enter Tryz.func63, Tryz.ntmps63
  go_wp2
  go_ret
  exact ⟨by first | rfl | simp [*], rfl⟩
set_option maxHeartbeats 2000000 in
theorem rInt_core (x n : Nat) (V F mode : Int) (w : World) (hm : 0 ≤ mode ∧ mode ≤ 4) (hn : n = 7 ∨ n = 15 ∨ n = 31 ∨ n = 63) (hV1 : -9223372036854775808 ≤ V) (hV2 : V ≤ 9223372036854775807)
    (hW : ∀ W lo hi, NumAt W lo (-((2 ^ n : Nat) : Int)) 80 → NumAt W hi (((2 ^ n : Nat) : Int) - 1) 80 → Calls Tryz.prog 65 #[.int .u64 x, .pointer (some ⟨lo, 0, none⟩), .pointer (some ⟨hi, 0, none⟩), .int .i64 mode] W fun r w' => ∃ q, r = .returned (.tuple #[.pointer (some ⟨q, 0, none⟩), .int .i64 F]) ∧ NumAt w' q V 80 ∧ Below W.heap.size W w') :
    Calls Tryz.prog 19 #[.int .u64 x, .int .i64 ((n : Int) + 1), .int .i64 mode] w fun r w' => r = .returned (.tuple #[.int .i64 V, .int .i64 F, .int .i64 0]) ∧ Below w.heap.size w w' := by
  have hk : decide (0 ≤ mode ∧ mode ≤ 4) = true := decide_eq_true hm
  have HWI := hid (fun (W : World) => width_ok ((n : Int) + 1) W (by omega))
  have hs1 : IntKind.i64.wrap ((n : Int) + 1 - 1) = (n : Int) := by rw [IntWalk.i64_in _ (by omega)]; omega
  have hs2 : ((n : Int) + 1 - 1) = (n : Int) := by omega
  have hs3 : IntKind.i64.wrap (n : Int) = (n : Int) := by rw [IntWalk.i64_in _ (by omega)]
  have hs4 : IntKind.u64.wrap (n : Int) = (n : Int) := by rw [IntKind.wrap_u64]; omega
  have HN : Hid (n ≤ 63) := by show n ≤ 63; omega
  have HW := hid hW
  have HI := hid (fun (W : World) q (h : NumAt W q V 80) => NInt64 q V 80 W h hV1 hV2)
  obtain ⟨v, hv⟩ : ∃ v : Int, Hid ((n : Int) + 1 = v) := ⟨_, rfl⟩
  rw [hv.out] at HWI hs1 hs2 ⊢
  clear hm hn hV1 hV2 hW
  go_enter Tryz.func19, Tryz.ntmps19
  go_wp2_with fail
  refine (Known_any mode _).mono ?_
  rintro r w0 ⟨rfl, rfl⟩
  rw [hk]
  clear hk
  go_wp2_with fail
  refine (HWI.out _).mono ?_
  rintro r w1 ⟨rfl, rfl⟩
  go_wp2_with fail
  refine (NNew 1 _ (by decide)).mono ?_
  rintro r w2 ⟨rfl, h2, b2⟩
  have H2 := hid h2
  have HZ2 := hid ((fresh_num w1).below b2)
  have B2 : Hid (Below w1.heap.size w1 w2) := bl_then (al_below _ _) b2
  have hsz : (w1.alloc (.cells #[.bool false, .slice none 0 0] 73)).heap.size = w1.heap.size + 1 := by simp
  rw [hsz] at H2
  clear h2 b2
  go_wp2_with fail
  refine (NLsh w1.heap.size (w1.heap.size + 1) ((1 : Nat) : Int) n 2 _ HZ2.out.zok H2.out (by decide) (by have := HN.out; omega)).mono ?_
  rintro r w3 ⟨rfl, h3, b3⟩
  rw [one_pow] at h3
  have H3 := hid (h3.more (b2 := 10) (by have := HN.out; omega))
  have B3 : Hid (Below w1.heap.size w1 w3) := B2.out.trans (b3.below B2.out.size (Nat.le_refl _))
  have hl3 := H3.out.lt
  clear h3 b3
  go_wp2_with fail
  refine (NNeg w3.heap.size w1.heap.size ((2 ^ n : Nat) : Int) 10 _ (fresh_zok' _ _ rfl) (H3.out.al _) (by decide)).mono ?_
  rintro r w4 ⟨rfl, h4, b4⟩
  have H4 := hid h4
  have H3' : Hid (NumAt w4 w1.heap.size ((2 ^ n : Nat) : Int) 10) := (H3.out.al _).but b4 (by omega) (fresh_zok' _ _ rfl)
  have B4 : Hid (Below w1.heap.size w1 w4) := B3.out.trans ((fresh_below b4).mono B3.out.size)
  have hl4 := H4.out.lt
  clear h4 b4
  go_wp2_with fail
  refine (NNew 1 _ (by decide)).mono ?_
  rintro r w5 ⟨rfl, h5, b5⟩
  have hsz5 : (w4.alloc (.cells #[.bool false, .slice none 0 0] 73)).heap.size = w4.heap.size + 1 := by simp
  have H5 := hid h5
  rw [hsz5] at H5
  have HZ5 := hid ((fresh_num w4).below b5)
  have H3'' := hid ((H3'.out.al _).below b5)
  have H4' := hid ((H4.out.al _).below b5)
  have B5 : Hid (Below w1.heap.size w1 w5) := B4.out.trans ((bl_then (al_below _ _) b5).mono B4.out.size)
  clear h5 b5
  go_wp2_with fail
  refine (NSub w4.heap.size w1.heap.size (w4.heap.size + 1) ((2 ^ n : Nat) : Int) ((1 : Nat) : Int) 10 2 _ HZ5.out.zok (by have := B4.out.size; have := hl4; omega) (by omega) H3''.out H5.out (by decide) (by decide)).mono ?_
  rintro r w6 ⟨rfl, h6, b6⟩
  have H6 := hid (h6.more (b2 := 80) (by decide))
  have H4'' : Hid (NumAt w6 w3.heap.size (-((2 ^ n : Nat) : Int)) 10) := H4'.out.but b6 (by omega) HZ5.out.zok
  have B6 : Hid (Below w1.heap.size w1 w6) := B5.out.trans (b6.below B5.out.size (by have := B4.out.size; omega))
  clear h6 b6
  go_wp2_with fail
  refine (HW.out _ _ _ (H4''.out.more (by decide)) H6.out).mono ?_
  rintro r w7 ⟨q, rfl, h7, b7⟩
  have H7 := hid h7
  have B7 := hid (bl_then B6.out b7)
  clear h7 b7
  go_wp2_with fail
  refine (HI.out _ _ H7.out).mono ?_
  rintro r w8 ⟨rfl, rfl⟩
  go_wp2
  go_ret3
  exact ⟨rfl, B7.out⟩
end Go.Proofs.YtpgcelbgmpfliaaGreatDoor

namespace Go.Proofs.YtpgcelbgmpfliaaGreatDoor
open Go.RowKit Go.IntWalk

set_option maxHeartbeats 2000000 in
theorem sum_self (z y : Nat) (A B : List Nat) (w : World) (hx : BigAt w z false A) (hy : BigAt w y false B) (hA : A.length ≤ 999999) (hB : B.length ≤ 999999) (hle : natL B ≤ natL A) :
    Calls Tryz.prog 110 #[.pointer (some ⟨z, 0, none⟩), .pointer (some ⟨z, 0, none⟩), .pointer (some ⟨y, 0, none⟩), .bool true] w fun r w' => r = .returned (.pointer (some ⟨z, 0, none⟩)) ∧ PutIs z false (natL A - natL B) A.length w w' := by
  have hz : ZOk z w w := by
    obtain ⟨a, ca, ho, _⟩ := id hx
    exact ⟨But.refl _ _, _, _, _, _, ho⟩
  obtain ⟨a, ca, ho, hcap, hm, hd, hc, hneg⟩ := hx
  obtain ⟨c0, c1, hf, hlt⟩ := int_cells ho
  obtain ⟨b, cb, ho', hcap', hm', hd', hc', hneg'⟩ := hy
  obtain ⟨c0', c1', hf', hlt'⟩ := int_cells ho'
  obtain ⟨cc, hcc⟩ : ∃ cc, Hid (cmpI (natL A) (natL B) = cc) := ⟨_, rfl⟩
  have hc0 : 0 ≤ cc := by rw [← hcc.out]; unfold cmpI; rw [if_neg (by omega)]; split <;> omega
  have HC : Hid (∀ w', Hid (Below w.heap.size w w') → Calls Tryz.prog 142 #[.slice a A.length ca, .slice b B.length cb] w' fun r w1 => r = .returned (.int .i64 cc) ∧ Hid (Below w.heap.size w w1)) := by
    intro w' hw
    refine (bcompare_any A B a b ca cb w' (hm.below hw.out) (hm'.below hw.out) hd hd' hc hc' (by omega) (by omega)).mono ?_
    rintro r w1 ⟨rfl, hb1⟩
    exact ⟨by rw [hcc.out], bl_then hw.out hb1⟩
  have HL : Hid (∀ w', Hid (Below w.heap.size w w') → Calls Tryz.prog 139 #[.slice a A.length ca, .slice b B.length cb] w' fun r w1 => ∃ L' a' cap', r = .returned (.slice a' L'.length cap') ∧ Hid (MagIs (natL A - natL B) A.length L' a' cap' w1) ∧ Hid (ZOk z w w1) ∧ w1.cell? ⟨z, 0, none⟩ = some (.bool false) ∧ w1.cell? ⟨z, 1, none⟩ = some (.slice a A.length ca) ∧ w1.cell? ⟨y, 1, none⟩ = some (.slice b B.length cb)) := by
    intro w' hw
    refine (minus_any A B a b ca cb w' (hm.below hw.out) (hm'.below hw.out) hd hd' hc' (by omega) (by omega)).mono ?_
    rintro r w1 ⟨⟨L', a', cap', hr, h1⟩, hb1⟩
    have hb2 := bl_then hw.out hb1
    exact ⟨L', a', cap', hr, h1, ZOk.below hz hb2, by rw [hb2.cell (p := ⟨z, 0, none⟩) hlt]; exact c0, by rw [hb2.cell (p := ⟨z, 1, none⟩) hlt]; exact c1, by rw [hb2.cell (p := ⟨y, 1, none⟩) hlt']; exact c1'⟩
  obtain ⟨v, hv⟩ : ∃ v, Hid (natL A - natL B = v) := ⟨_, rfl⟩
  rw [hv.out] at HL ⊢
  have HP : Hid (∀ w1 L' a' cap', Hid (ZOk z w w1) → Hid (MagIs v A.length L' a' cap' w1) → Calls Tryz.prog 88 #[.pointer (some ⟨z, 0, none⟩), .bool false, .slice a' L'.length cap'] w1 fun r w' => r = .returned (.pointer (some ⟨z, 0, none⟩)) ∧ Hid (PutIs z false v A.length w w') ∧ Hid (ZOk z w w')) := by
    intro w1 L' a' cap' h1 h2
    refine (put_is z false v A.length w w1 L' a' cap' h1.out h2.out (by omega)).mono ?_
    rintro r w' ⟨rfl, L', e1, e2, e3, e4⟩
    exact ⟨rfl, ⟨L', e1, e2, by simpa using e3, e4⟩, ZOk.big h1.out e4 e3⟩
  obtain ⟨k, hk⟩ : ∃ k, Hid (A.length = k) := ⟨_, rfl⟩
  obtain ⟨l, hl⟩ : ∃ l, Hid (B.length = l) := ⟨_, rfl⟩
  rw [hk.out] at HL HC HP c1 ⊢
  rw [hl.out] at HL HC c1'
  have HK : Hid (∀ w', Hid (Below w.heap.size w w') → (w'.cell? ⟨z, 0, none⟩ = some (.bool false) ∧ w'.cell? ⟨z, 1, none⟩ = some (.slice a k ca) ∧ w'.cell? ⟨y, 1, none⟩ = some (.slice b l cb)) ∧ Hid (Below w.heap.size w w')) := fun w' h => ⟨⟨(h.out.cell (p := ⟨z, 0, none⟩) hlt).trans c0, (h.out.cell (p := ⟨z, 1, none⟩) hlt).trans c1, (h.out.cell (p := ⟨y, 1, none⟩) hlt').trans c1'⟩, h⟩
  have HZ0 : Hid (Below w.heap.size w w.drew) := (Below.refl _ _).drew
  have HZD : Hid (∀ w1, Hid (Below w.heap.size w w1) → Hid (Below w.heap.size w w1.drew)) := fun w1 h => h.out.drew
  clear hz hA hB hm hm' hd hd' hc hc' hneg hneg' ho ho' hcap hcap' hf hf' hle
  go_enter Tryz.func110, Tryz.ntmps110
  go_wp2_with fail
  go_region_held3 (fun w' => (w'.cell? ⟨z, 0, none⟩ = some (.bool false) ∧ w'.cell? ⟨z, 1, none⟩ = some (.slice a k ca) ∧ w'.cell? ⟨y, 1, none⟩ = some (.slice b l cb)) ∧ Hid (Below w.heap.size w w')) (exact HK.out _ (by assumption))
    (first | (go_at_call 142; refine (HC.out _ (And.right (by assumption))).mono ?_; rintro r w1 ⟨rfl, HB1⟩))
  all_goals have HZ1 := HZD.out _ HB1
  all_goals obtain ⟨⟨k0, k1, k2⟩, -⟩ := HK.out _ HB1
  all_goals go_wp2_with fail
  all_goals obtain ⟨⟨m0, m1, m2⟩, -⟩ := HK.out _ HZ1
  all_goals go_region_with (first
      | (go_at_call 139; refine (HL.out _ HZ1).mono ?_; rintro r w2 ⟨L', a', cap', rfl, HM, HZ2, j0, j1, j2⟩)
      | (go_at_call 88; refine (HP.out _ _ _ _ (by assumption) (by assumption)).mono ?_; rintro r w3 ⟨rfl, HE, HZ3⟩))
  all_goals go_wp2
  all_goals go_ret
  all_goals exact ⟨rfl, Hid.out (by assumption)⟩
set_option maxHeartbeats 400000 in
theorem NSubSelf (z y a b b1 b2 : Nat) (w : World) (hx : NumAt w z (a : Int) b1) (hy : NumAt w y (b : Int) b2) (h1 : b1 ≤ 900000) (h2 : b2 ≤ 900000) (hle : b ≤ a) :
    Calls Tryz.prog 67 #[.pointer (some ⟨z, 0, none⟩), .pointer (some ⟨z, 0, none⟩), .pointer (some ⟨y, 0, none⟩)] w fun r w' => r = .returned (.pointer (some ⟨z, 0, none⟩)) ∧ NumAt w' z ((a - b : Nat) : Int) b1 ∧ But z w w' := by
  obtain ⟨A, rfl, hA, HA⟩ := num_pos hx
  obtain ⟨B, rfl, hB, HB⟩ := num_pos hy
  have HS : Hid (Calls Tryz.prog 110 #[.pointer (some ⟨z, 0, none⟩), .pointer (some ⟨z, 0, none⟩), .pointer (some ⟨y, 0, none⟩), .bool true] w fun r w' => r = .returned (.pointer (some ⟨z, 0, none⟩)) ∧ Hid (NumAt w' z ((natL A - natL B : Nat) : Int) b1 ∧ But z w w')) := by
    refine (sum_self z y A B w HA HB (by omega) (by omega) hle).mono ?_
    rintro r w' ⟨rfl, L', e1, e2, e3, e4⟩
    exact ⟨rfl, ⟨false, L', by unfold intL; rw [if_neg (by decide), e1], by omega, e3⟩, e4⟩
  clear hx hy h1 h2 hle hA hB HA HB
  go_enter Tryz.func67, Tryz.ntmps67
  go_wp2_with fail
  refine HS.out.mono ?_
  rintro r w1 ⟨rfl, HE⟩
  go_wp2
  go_ret
  exact ⟨rfl, HE.out⟩
end Go.Proofs.YtpgcelbgmpfliaaGreatDoor
