
/- What the document's Whole does. -/
import Derived.Test.YtpgcelbgmpfliaaGreatDoorV35
import Derived.Test.YtpgcelbgmpfliaaGreatDoorV46
import Derived.Test.YtpgcelbgmpfliaaGreatDoorV43
namespace Go.Proofs.YtpgcelbgmpfliaaGreatDoor
open Go.RowKit Go.IntWalk

/-- The frame of Whole: its number's block stays. -/
def WhFr (w2 : World) (kind : Int) (ng : Bool) (z : Nat) (E : Int) (W : World) : Prop := Below (w2.heap.size + 1) (w2.alloc (.cells #[.int .i64 kind, .bool ng, .pointer (some ⟨z, 0, none⟩), .int .i64 E] 88)) W
theorem WhFr.sz {w2 : World} {kind : Int} {ng : Bool} {z : Nat} {E : Int} {W : World} (h : WhFr w2 kind ng z E W) : w2.heap.size + 1 ≤ W.heap.size := by have := h.size; simp at this; omega
theorem WhFr.be {w2 : World} {kind : Int} {ng : Bool} {z : Nat} {E : Int} {W W' : World} (h : WhFr w2 kind ng z E W) (k : Below W.heap.size W W') : WhFr w2 kind ng z E W' := fC h k h.sz
set_option maxHeartbeats 2000000 in
theorem rWhole_sp (Good : World → Nat → Prop) (x V : Nat) (kind E mode G : Int) (ng Z : Bool) (w : World) (hm : 0 ≤ mode ∧ mode ≤ 4) (hkz : (kind = 1 ∨ kind = 2) ∨ (kind = 0 ∧ Z = true))
    (hG : ∀ W W' z, Good W z → Below W.heap.size W W' → Good W' z)
    (hT : ∀ W, Calls Tryz.prog 54 #[.agg #[.int .i64 53, .int .i64 (-1022), .int .i64 1023, .int .i64 11], .int .u64 x] W fun r w' => ∃ z, r = .returned (.agg #[.int .i64 kind, .bool ng, .pointer (some ⟨z, 0, none⟩), .int .i64 E]) ∧ Good w' z ∧ Below W.heap.size W w')
    (hI : ∀ W z, Good W z → Calls Tryz.prog 55 #[.agg #[.int .i64 kind, .bool ng, .pointer (some ⟨z, 0, none⟩), .int .i64 E]] W fun r w' => r = .returned (.bool Z) ∧ Below W.heap.size W w')
    (hS : ∀ W z, Good W z → Calls Tryz.prog 56 #[.agg #[.int .i64 53, .int .i64 (-1022), .int .i64 1023, .int .i64 11], .agg #[.int .i64 kind, .bool ng, .pointer (some ⟨z, 0, none⟩), .int .i64 E], .int .i64 mode] W fun r w' => r = .returned (.tuple #[.int .u64 V, .int .i64 G]) ∧ Below W.heap.size W w') :
    Calls Tryz.prog 17 #[.int .u64 x, .int .i64 mode] w fun r w' => r = .returned (.tuple #[.int .u64 V, .int .i64 0, .int .i64 0]) ∧ Below w.heap.size w w' := by
  have hk : decide (0 ≤ mode ∧ mode ≤ 4) = true := decide_eq_true hm
  have HT := hid hT
  have HI := hid hI
  have HS := hid hS
  have HGD := hid hG
  clear hT hI hS hG hm
  have HREST : Hid (∀ w2 z, Good w2 z → Below w.heap.size w w2 → ∀ W, WhFr w2 kind ng z E W → Good W z ∧ Below w.heap.size w W) := fun w2 z g b W hW => ⟨HGD.out _ _ _ g (bl_B hW), bl_then b (bl_B hW)⟩
  rcases hkz with hkz | ⟨rfl, rfl⟩
  · rcases hkz with rfl | rfl
    all_goals go_enter Tryz.func17, Tryz.ntmps17
    all_goals go_wp2_with fail
    all_goals refine (Known_any mode _).mono ?_
    all_goals rintro r w0 ⟨rfl, rfl⟩
    all_goals rw [hk]
    all_goals go_wp2_with fail
    all_goals refine (Double_any _).mono ?_
    all_goals rintro r w1 ⟨rfl, b1⟩
    all_goals have B1 := hid b1
    all_goals clear b1
    all_goals go_wp2_with fail
    all_goals refine (HT.out _).mono ?_
    all_goals rintro r w2 ⟨z, rfl, g2, b2⟩
    all_goals have HR := hid (HREST.out w2 z g2 (bl_then B1.out b2))
    all_goals clear g2 b2 HREST
    all_goals go_wp2_with fail
    · have HK : Hid (∀ W, Hid (WhFr w2 1 ng z E W) → (W.cell? ⟨w2.heap.size, 0, none⟩ = some (.int .i64 1) ∧ W.cell? ⟨w2.heap.size, 1, none⟩ = some (.bool ng) ∧ W.cell? ⟨w2.heap.size, 2, none⟩ = some (.pointer (some ⟨z, 0, none⟩)) ∧ W.cell? ⟨w2.heap.size, 3, none⟩ = some (.int .i64 E)) ∧ Hid (WhFr w2 1 ng z E W)) := fun W h => ⟨fcells h.out, h⟩
      have HQ : Hid (WhFr w2 1 ng z E (w2.alloc (.cells #[.int .i64 1, .bool ng, .pointer (some ⟨z, 0, none⟩), .int .i64 E] 88)).drew) := Below.drew (Below.refl _ _)
      have HD : Hid (∀ W, Hid (WhFr w2 1 ng z E W) → Calls Tryz.prog 37 #[] W fun e w' => e = .returned (.agg #[.int .i64 53, .int .i64 (-1022), .int .i64 1023, .int .i64 11]) ∧ Hid (WhFr w2 1 ng z E w')) := fun W h => by
        refine (Double_any W).mono ?_
        rintro r w' ⟨rfl, hb⟩
        exact ⟨rfl, h.out.be hb⟩
      have HS2 : Hid (∀ W, Hid (WhFr w2 1 ng z E W) → Calls Tryz.prog 56 #[.agg #[.int .i64 53, .int .i64 (-1022), .int .i64 1023, .int .i64 11], .agg #[.int .i64 1, .bool ng, .pointer (some ⟨z, 0, none⟩), .int .i64 E], .int .i64 mode] W fun r w' => r = .returned (.tuple #[.int .u64 V, .int .i64 G]) ∧ Hid (WhFr w2 1 ng z E w')) := fun W h => by
        refine (HS.out W z (HR.out W h.out).1).mono ?_
        rintro r w' ⟨rfl, hb⟩
        exact ⟨rfl, h.out.be hb⟩
      go_region_held3 (fun W => (W.cell? ⟨w2.heap.size, 0, none⟩ = some (.int .i64 1) ∧ W.cell? ⟨w2.heap.size, 1, none⟩ = some (.bool ng) ∧ W.cell? ⟨w2.heap.size, 2, none⟩ = some (.pointer (some ⟨z, 0, none⟩)) ∧ W.cell? ⟨w2.heap.size, 3, none⟩ = some (.int .i64 E)) ∧ Hid (WhFr w2 1 ng z E W)) (exact HK.out _ (by first | assumption | exact HQ))
        (first
          | (go_at_call 37; refine (HD.out _ (And.right (by assumption))).mono ?_; rintro r w3 ⟨rfl, HD3⟩)
          | (go_at_call 56; refine (HS2.out _ (And.right (by assumption))).mono ?_; rintro r w4 ⟨rfl, HE4⟩))
      all_goals go_wp2
      all_goals go_ret3
      all_goals exact ⟨rfl, (HR.out _ HE4.out).2⟩
    · have HK : Hid (∀ W, Hid (WhFr w2 2 ng z E W) → (W.cell? ⟨w2.heap.size, 0, none⟩ = some (.int .i64 2) ∧ W.cell? ⟨w2.heap.size, 1, none⟩ = some (.bool ng) ∧ W.cell? ⟨w2.heap.size, 2, none⟩ = some (.pointer (some ⟨z, 0, none⟩)) ∧ W.cell? ⟨w2.heap.size, 3, none⟩ = some (.int .i64 E)) ∧ Hid (WhFr w2 2 ng z E W)) := fun W h => ⟨fcells h.out, h⟩
      have HQ : Hid (WhFr w2 2 ng z E (w2.alloc (.cells #[.int .i64 2, .bool ng, .pointer (some ⟨z, 0, none⟩), .int .i64 E] 88)).drew) := Below.drew (Below.refl _ _)
      have HD : Hid (∀ W, Hid (WhFr w2 2 ng z E W) → Calls Tryz.prog 37 #[] W fun e w' => e = .returned (.agg #[.int .i64 53, .int .i64 (-1022), .int .i64 1023, .int .i64 11]) ∧ Hid (WhFr w2 2 ng z E w')) := fun W h => by
        refine (Double_any W).mono ?_
        rintro r w' ⟨rfl, hb⟩
        exact ⟨rfl, h.out.be hb⟩
      have HS2 : Hid (∀ W, Hid (WhFr w2 2 ng z E W) → Calls Tryz.prog 56 #[.agg #[.int .i64 53, .int .i64 (-1022), .int .i64 1023, .int .i64 11], .agg #[.int .i64 2, .bool ng, .pointer (some ⟨z, 0, none⟩), .int .i64 E], .int .i64 mode] W fun r w' => r = .returned (.tuple #[.int .u64 V, .int .i64 G]) ∧ Hid (WhFr w2 2 ng z E w')) := fun W h => by
        refine (HS.out W z (HR.out W h.out).1).mono ?_
        rintro r w' ⟨rfl, hb⟩
        exact ⟨rfl, h.out.be hb⟩
      go_region_held3 (fun W => (W.cell? ⟨w2.heap.size, 0, none⟩ = some (.int .i64 2) ∧ W.cell? ⟨w2.heap.size, 1, none⟩ = some (.bool ng) ∧ W.cell? ⟨w2.heap.size, 2, none⟩ = some (.pointer (some ⟨z, 0, none⟩)) ∧ W.cell? ⟨w2.heap.size, 3, none⟩ = some (.int .i64 E)) ∧ Hid (WhFr w2 2 ng z E W)) (exact HK.out _ (by first | assumption | exact HQ))
        (first
          | (go_at_call 37; refine (HD.out _ (And.right (by assumption))).mono ?_; rintro r w3 ⟨rfl, HD3⟩)
          | (go_at_call 56; refine (HS2.out _ (And.right (by assumption))).mono ?_; rintro r w4 ⟨rfl, HE4⟩))
      all_goals go_wp2
      all_goals go_ret3
      all_goals exact ⟨rfl, (HR.out _ HE4.out).2⟩
  · go_enter Tryz.func17, Tryz.ntmps17
    go_wp2_with fail
    refine (Known_any mode _).mono ?_
    rintro r w0 ⟨rfl, rfl⟩
    rw [hk]
    go_wp2_with fail
    refine (Double_any _).mono ?_
    rintro r w1 ⟨rfl, b1⟩
    have B1 := hid b1
    clear b1
    go_wp2_with fail
    refine (HT.out _).mono ?_
    rintro r w2 ⟨z, rfl, g2, b2⟩
    have HR := hid (HREST.out w2 z g2 (bl_then B1.out b2))
    clear g2 b2 HREST
    go_wp2_with fail
    refine (HI.out _ z (HR.out _ (Below.refl _ _)).1).mono ?_
    rintro r w3 ⟨rfl, b3⟩
    have HF3 : Hid (WhFr w2 0 ng z E w3) := WhFr.be (Below.refl _ _) b3
    have HQ : Hid (WhFr w2 0 ng z E w3.drew) := Below.drew HF3.out
    obtain ⟨k0, k1, k2, k3⟩ := fcells HF3.out
    clear b3
    have HK : Hid (∀ W, Hid (WhFr w2 0 ng z E W) → (W.cell? ⟨w2.heap.size, 0, none⟩ = some (.int .i64 0) ∧ W.cell? ⟨w2.heap.size, 1, none⟩ = some (.bool ng) ∧ W.cell? ⟨w2.heap.size, 2, none⟩ = some (.pointer (some ⟨z, 0, none⟩)) ∧ W.cell? ⟨w2.heap.size, 3, none⟩ = some (.int .i64 E)) ∧ Hid (WhFr w2 0 ng z E W)) := fun W h => ⟨fcells h.out, h⟩
    have HD : Hid (∀ W, Hid (WhFr w2 0 ng z E W) → Calls Tryz.prog 37 #[] W fun e w' => e = .returned (.agg #[.int .i64 53, .int .i64 (-1022), .int .i64 1023, .int .i64 11]) ∧ Hid (WhFr w2 0 ng z E w')) := fun W h => by
      refine (Double_any W).mono ?_
      rintro r w' ⟨rfl, hb⟩
      exact ⟨rfl, h.out.be hb⟩
    have HS2 : Hid (∀ W, Hid (WhFr w2 0 ng z E W) → Calls Tryz.prog 56 #[.agg #[.int .i64 53, .int .i64 (-1022), .int .i64 1023, .int .i64 11], .agg #[.int .i64 0, .bool ng, .pointer (some ⟨z, 0, none⟩), .int .i64 E], .int .i64 mode] W fun r w' => r = .returned (.tuple #[.int .u64 V, .int .i64 G]) ∧ Hid (WhFr w2 0 ng z E w')) := fun W h => by
      refine (HS.out W z (HR.out W h.out).1).mono ?_
      rintro r w' ⟨rfl, hb⟩
      exact ⟨rfl, h.out.be hb⟩
    go_wp2_with fail
    go_region_held3 (fun W => (W.cell? ⟨w2.heap.size, 0, none⟩ = some (.int .i64 0) ∧ W.cell? ⟨w2.heap.size, 1, none⟩ = some (.bool ng) ∧ W.cell? ⟨w2.heap.size, 2, none⟩ = some (.pointer (some ⟨z, 0, none⟩)) ∧ W.cell? ⟨w2.heap.size, 3, none⟩ = some (.int .i64 E)) ∧ Hid (WhFr w2 0 ng z E W)) (exact HK.out _ (by first | assumption | exact HQ))
      (first
        | (go_at_call 37; refine (HD.out _ (And.right (by assumption))).mono ?_; rintro r w3 ⟨rfl, HD3⟩)
        | (go_at_call 56; refine (HS2.out _ (And.right (by assumption))).mono ?_; rintro r w4 ⟨rfl, HE4⟩))
    all_goals go_wp2
    all_goals go_ret3
    all_goals exact ⟨rfl, (HR.out _ HE4.out).2⟩
set_option maxHeartbeats 2000000 in
theorem rWhole_fin (x m Q : Nat) (E mode : Int) (ng B : Bool) (w : World) (hm : 0 ≤ mode ∧ mode ≤ 4) (hm0 : m ≠ 0)
    (hT : ∀ W, Calls Tryz.prog 54 #[.agg #[.int .i64 53, .int .i64 (-1022), .int .i64 1023, .int .i64 11], .int .u64 x] W fun r w' => ∃ z, r = .returned (.agg #[.int .i64 0, .bool ng, .pointer (some ⟨z, 0, none⟩), .int .i64 E]) ∧ NumAt w' z (m : Int) 2 ∧ Below W.heap.size W w')
    (hW : ∀ W z, NumAt W z (m : Int) 2 → Calls Tryz.prog 57 #[.agg #[.int .i64 0, .bool ng, .pointer (some ⟨z, 0, none⟩), .int .i64 E], .int .i64 mode] W fun r w' => ∃ q, r = .returned (.tuple #[.pointer (some ⟨q, 0, none⟩), .bool B]) ∧ NumAt w' q (Q : Int) 80 ∧ W.heap.size ≤ q ∧ Below W.heap.size W w') :
    Calls Tryz.prog 17 #[.int .u64 x, .int .i64 mode] w fun r w' => r = .returned (.tuple #[.int .u64 ((if Q = 0 then signN ng 0 else signN ng (docR64 Q 0 0 ng) : Nat) : Int), .int .i64 (if B = true then 1 else 0), .int .i64 0]) ∧ Below w.heap.size w w' := by
  have hk : decide (0 ≤ mode ∧ mode ≤ 4) = true := decide_eq_true hm
  have HT := hid hT
  have HW := hid hW
  have HI := hid (fun (W : World) z (h : NumAt W z (m : Int) 2) => IsZero_any 0 ng z m 2 E W h)
  rw [decide_eq_true (rfl : (0 : Int) = 0), decide_eq_false hm0, Bool.true_and] at HI
  obtain ⟨F, hF⟩ : ∃ F : Int, Hid ((if B = true then 1 else 0) = F) := ⟨_, rfl⟩
  rw [hF.out]
  obtain ⟨V, hV⟩ : ∃ V : Nat, Hid ((if Q = 0 then signN ng 0 else signN ng (docR64 Q 0 0 ng)) = V) := ⟨_, rfl⟩
  rw [hV.out]
  clear hT hW hm hm0
  go_enter Tryz.func17, Tryz.ntmps17
  go_wp2_with fail
  refine (Known_any mode _).mono ?_
  rintro r w0 ⟨rfl, rfl⟩
  rw [hk]
  clear hk
  go_wp2_with fail
  refine (Double_any _).mono ?_
  rintro r w1 ⟨rfl, b1⟩
  have B1 := hid b1
  clear b1
  go_wp2_with fail
  refine (HT.out _).mono ?_
  rintro r w2 ⟨z, rfl, g2, b2⟩
  have G2 := hid g2
  have B2 := hid (bl_then B1.out b2)
  clear g2 b2
  go_wp2_with fail
  refine (HI.out _ z (G2.out.al _)).mono ?_
  rintro r w3 ⟨rfl, b3⟩
  have HF3 : Hid (WhFr w2 0 ng z E w3) := WhFr.be (Below.refl _ _) b3
  obtain ⟨k0, k1, k2, k3⟩ := fcells HF3.out
  clear b3
  go_wp2_with fail
  refine (HW.out _ z (G2.out.below (bl_B HF3.out))).mono ?_
  rintro r w4 ⟨q, rfl, h4, hq, b4⟩
  have H4 := hid h4
  have HF4 : Hid (WhFr w2 0 ng z E w4) := HF3.out.be b4
  have HF4d : Hid (WhFr w2 0 ng z E w4.drew) := Below.drew HF4.out
  clear h4 b4 k0 k1 k2 k3
  obtain ⟨k0, k1, k2, k3⟩ := fcells HF4.out
  have HK : Hid (∀ W, Hid (WhFr w2 0 ng z E W) → (W.cell? ⟨w2.heap.size, 1, none⟩ = some (.bool ng)) ∧ Hid (WhFr w2 0 ng z E W)) := fun W h => ⟨(fcells h.out).2.1, h⟩
  have HD : Hid (∀ W, Hid (WhFr w2 0 ng z E W) → Calls Tryz.prog 37 #[] W fun e w' => e = .returned (.agg #[.int .i64 53, .int .i64 (-1022), .int .i64 1023, .int .i64 11]) ∧ Hid (Below W.heap.size W w') ∧ Hid (WhFr w2 0 ng z E w')) := fun W h => by
    refine (Double_any W).mono ?_
    rintro r w' ⟨rfl, hb⟩
    exact ⟨rfl, hb, h.out.be hb⟩
  have HNo : Hid (∀ W, Hid (WhFr w2 0 ng z E W) → Calls Tryz.prog 59 #[.agg #[.int .i64 53, .int .i64 (-1022), .int .i64 1023, .int .i64 11], .bool ng] W fun r w' => r = .returned (.int .u64 (signN ng 0)) ∧ Hid (WhFr w2 0 ng z E w')) := fun W h => by
    refine (Nought64_any ng W).mono ?_
    rintro r w' ⟨rfl, hb⟩
    exact ⟨rfl, h.out.be hb⟩
  by_cases hQ : Q = 0
  · have hs0 : sgnZ (Q : Int) = 0 := by unfold sgnZ; rw [if_pos (by omega)]
    have hV0 : signN ng 0 = V := by rw [← hV.out, if_pos hQ]
    rw [hV0] at HNo
    cases B
    all_goals obtain rfl := hF.out
    all_goals go_wp2_with fail
    all_goals refine (NSign q (Q : Int) 80 _ H4.out).mono ?_
    all_goals rintro r w5 ⟨rfl, rfl⟩
    all_goals rw [hs0]
    all_goals go_wp2_with fail
    all_goals go_region_held3 (fun W => (W.cell? ⟨w2.heap.size, 1, none⟩ = some (.bool ng)) ∧ Hid (WhFr w2 0 ng z E W)) (exact HK.out _ (by first | assumption | exact HF4d))
      (first
        | (go_at_call 37; refine (HD.out _ (And.right (by assumption))).mono ?_; rintro r w6 ⟨rfl, HB6, HD6⟩)
        | (go_at_call 59; refine (HNo.out _ (And.right (by assumption))).mono ?_; rintro r w7 ⟨rfl, HE7⟩))
    all_goals go_wp2
    all_goals go_ret3
    all_goals exact ⟨rfl, bl_then B2.out (bl_B HE7.out)⟩
  · have hs0 : (sgnZ (Q : Int) == 0) = false := by unfold sgnZ; rw [if_neg (by omega), if_neg (by omega)]; rfl
    have hV0 : signN ng (docR64 Q 0 0 ng) = V := by rw [← hV.out, if_neg hQ]
    obtain ⟨S, hS⟩ : ∃ S, Hid (sgnZ (Q : Int) = S) := ⟨_, rfl⟩
    rw [hS.out] at hs0
    have HRo : Hid (∀ W, Hid (WhFr w2 0 ng z E W) → NumAt W q (Q : Int) 80 → Calls Tryz.prog 60 #[.agg #[.int .i64 53, .int .i64 (-1022), .int .i64 1023, .int .i64 11], .bool ng, .pointer (some ⟨q, 0, none⟩), .int .i64 0, .bool false, .int .i64 0] W fun r w' => ∃ f, r = .returned (.tuple #[.int .u64 V, .int .i64 f]) ∧ Hid (WhFr w2 0 ng z E w')) := fun W h hn => by
      refine (Round64_any ng q Q 80 0 0 W hn hQ (by decide) (by decide) (by decide)).mono ?_
      rintro r w' ⟨rfl, hb⟩
      rw [hV0]
      exact ⟨_, rfl, h.out.be hb⟩
    have H4d := hid (NumAt.drew H4.out)
    cases B
    all_goals obtain rfl := hF.out
    all_goals go_wp2_with fail
    all_goals refine (NSign q (Q : Int) 80 _ H4.out).mono ?_
    all_goals rintro r w5 ⟨rfl, rfl⟩
    all_goals rw [hS.out]
    all_goals go_wp2_with fail
    all_goals go_region_held3 (fun W => (W.cell? ⟨w2.heap.size, 1, none⟩ = some (.bool ng)) ∧ Hid (WhFr w2 0 ng z E W)) (exact HK.out _ (by first | assumption | exact HF4d))
      (first
        | (go_at_call 37; refine (HD.out _ (And.right (by assumption))).mono ?_; rintro r w6 ⟨rfl, HB6, HD6⟩)
        | (go_at_call 60; refine (HRo.out _ (And.right (by assumption)) (H4d.out.below HB6.out)).mono ?_; rintro r w7 ⟨f, rfl, HE7⟩))
    all_goals go_wp2
    all_goals go_ret3
    all_goals exact ⟨rfl, bl_then B2.out (bl_B HE7.out)⟩
set_option maxHeartbeats 400000 in
theorem rWhole_mode (x : Nat) (mode : Int) (w : World) (hm : ¬ (0 ≤ mode ∧ mode ≤ 4)) :
    Calls Tryz.prog 17 #[.int .u64 x, .int .i64 mode] w fun r w' => r = .returned (.tuple #[.int .u64 0, .int .i64 0, .int .i64 20]) ∧ Below w.heap.size w w' := by
  have hk : decide (0 ≤ mode ∧ mode ≤ 4) = false := decide_eq_false hm
  clear hm
  go_enter Tryz.func17, Tryz.ntmps17
  go_wp2_with fail
  refine (Known_any mode _).mono ?_
  rintro r w0 ⟨rfl, rfl⟩
  rw [hk]
  clear hk
  go_wp2
  go_ret3
  exact ⟨rfl, Below.refl _ _⟩
end Go.Proofs.YtpgcelbgmpfliaaGreatDoor
