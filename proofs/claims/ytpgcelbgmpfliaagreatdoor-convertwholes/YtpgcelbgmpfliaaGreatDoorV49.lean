
/- What the document's Take does, a case of it. (Written by mkr2t.py.) -/
import Derived.Test.YtpgcelbgmpfliaaGreatDoorV43
namespace Go.Proofs.YtpgcelbgmpfliaaGreatDoor
open Go.RowKit Go.IntWalk

set_option maxHeartbeats 4000000 in
theorem Take64_sub (x : Nat) (w : World) (hx : x < 18446744073709551616) (h : x / 4503599627370496 % 2048 = 0) :
    Calls Tryz.prog 54 #[.agg #[.int .i64 53, .int .i64 (-1022), .int .i64 1023, .int .i64 11], .int .u64 x] w fun r w' => ∃ z, r = .returned (.agg #[.int .i64 0, .bool (decide (9223372036854775808 ≤ x)), .pointer (some ⟨z, 0, none⟩), .int .i64 (-1074)]) ∧ NumAt w' z ((x % 4503599627370496 : Nat) : Int) 2 ∧ Below w.heap.size w w' := by
  have hfr : bits .and .u64 (x : Int) 4503599627370495 = ((x % 4503599627370496 : Nat) : Int) := and_mask x 52 (by omega) (by decide)
  have hfi : bits .and .u64 ((x : Int) / 4503599627370496) 2047 = ((x / 4503599627370496 % 2048 : Nat) : Int) := by
    have e : (x : Int) / 4503599627370496 = ((x / 4503599627370496 : Nat) : Int) := by omega
    rw [e]
    exact and_mask (x / 4503599627370496) 11 (by omega) (by decide)
  have hsg : bits .and .u64 ((x : Int) / 9223372036854775808) 1 = ((x / 9223372036854775808 : Nat) : Int) := by
    have e : (x : Int) / 9223372036854775808 = ((x / 9223372036854775808 : Nat) : Int) := by omega
    rw [e]
    have := and_mask (x / 9223372036854775808) 1 (by omega) (by decide)
    have e2 : x / 9223372036854775808 % 2 ^ 1 = x / 9223372036854775808 := by simp only [Nat.reducePow]; omega
    rw [e2] at this
    exact this
  have hng : (((x / 9223372036854775808 : Nat) : Int) == 1) = decide (9223372036854775808 ≤ x) := by
    by_cases h : 9223372036854775808 ≤ x
    · rw [decide_eq_true h, beq_iff_eq]; omega
    · rw [decide_eq_false h, beq_eq_false_iff_ne]; omega
  obtain ⟨fr, hFR⟩ : ∃ fr, Hid (x % 4503599627370496 = fr) := ⟨_, rfl⟩
  obtain ⟨fi, hFI⟩ : ∃ fi, Hid (x / 4503599627370496 % 2048 = fi) := ⟨_, rfl⟩
  obtain ⟨sg, hSG⟩ : ∃ sg, Hid (x / 9223372036854775808 = sg) := ⟨_, rfl⟩
  obtain ⟨ng, hNG⟩ : ∃ ng, Hid (decide (9223372036854775808 ≤ x) = ng) := ⟨_, rfl⟩
  have hfrl : fr < 4503599627370496 := by rw [← hFR.out]; omega
  have HFRL := hid hfrl
  rw [hFI.out] at hfi h
  rw [hFR.out] at hfr
  rw [hSG.out] at hsg hng
  rw [hNG.out] at hng
  rw [hNG.out, hFR.out]
  have hfi2 : bits .and .u64 ((x : Int) / 4503599627370496) 2047 = 0 := by rw [hfi, h]; rfl
  clear hfi hfrl hx h
  have HK : Hid (∀ w', Hid (Below (w.heap.size + 2) ((w.alloc (.cells #[.int .i64 53, .int .i64 (-1022), .int .i64 1023, .int .i64 11] 66)).alloc (.cells #[.int .i64 0, .bool false, .pointer none, .int .i64 0] 88)) w') → (w'.cell? ⟨w.heap.size, 0, none⟩ = some (.int .i64 53) ∧ w'.cell? ⟨w.heap.size, 1, none⟩ = some (.int .i64 (-1022)) ∧ w'.cell? ⟨w.heap.size, 2, none⟩ = some (.int .i64 1023) ∧ w'.cell? ⟨w.heap.size, 3, none⟩ = some (.int .i64 11)) ∧ Hid (Below (w.heap.size + 2) ((w.alloc (.cells #[.int .i64 53, .int .i64 (-1022), .int .i64 1023, .int .i64 11] 66)).alloc (.cells #[.int .i64 0, .bool false, .pointer none, .int .i64 0] 88)) w')) := fun w' h => ⟨(tcells h.out).1, h⟩
  have HQ0 : Hid (Below (w.heap.size + 2) ((w.alloc (.cells #[.int .i64 53, .int .i64 (-1022), .int .i64 1023, .int .i64 11] 66)).alloc (.cells #[.int .i64 0, .bool false, .pointer none, .int .i64 0] 88)) ((w.alloc (.cells #[.int .i64 53, .int .i64 (-1022), .int .i64 1023, .int .i64 11] 66)).alloc (.cells #[.int .i64 0, .bool false, .pointer none, .int .i64 0] 88)).drew) := Below.drew (Below.refl _ _)
  have HQ1 : Hid (Below (w.heap.size + 2) ((w.alloc (.cells #[.int .i64 53, .int .i64 (-1022), .int .i64 1023, .int .i64 11] 66)).alloc (.cells #[.int .i64 0, .bool false, .pointer none, .int .i64 0] 88)) (((w.alloc (.cells #[.int .i64 53, .int .i64 (-1022), .int .i64 1023, .int .i64 11] 66)).alloc (.cells #[.int .i64 0, .bool false, .pointer none, .int .i64 0] 88)).alloc (.cells #[.bool false, .slice none 0 0] 73)).drew) := Below.drew ((Below.refl _ _).alloc (by simp) _)
  have HQ2 : Hid (Below (w.heap.size + 2) ((w.alloc (.cells #[.int .i64 53, .int .i64 (-1022), .int .i64 1023, .int .i64 11] 66)).alloc (.cells #[.int .i64 0, .bool false, .pointer none, .int .i64 0] 88)) ((((w.alloc (.cells #[.int .i64 53, .int .i64 (-1022), .int .i64 1023, .int .i64 11] 66)).alloc (.cells #[.int .i64 0, .bool false, .pointer none, .int .i64 0] 88)).alloc (.cells #[.bool false, .slice none 0 0] 73)).alloc (.cells #[.int .i64 0, .bool false, .pointer none, .int .i64 0] 88)).drew) := Below.drew (((Below.refl _ _).alloc (by simp) _).alloc (by simp) _)
  have HQ3 : Hid (Below (w.heap.size + 2) ((w.alloc (.cells #[.int .i64 53, .int .i64 (-1022), .int .i64 1023, .int .i64 11] 66)).alloc (.cells #[.int .i64 0, .bool false, .pointer none, .int .i64 0] 88)) ((((w.alloc (.cells #[.int .i64 53, .int .i64 (-1022), .int .i64 1023, .int .i64 11] 66)).alloc (.cells #[.int .i64 0, .bool false, .pointer none, .int .i64 0] 88)).alloc (.cells #[.int .i64 0, .bool false, .pointer none, .int .i64 0] 88)).alloc (.cells #[.bool false, .slice none 0 0] 73)).drew) := Below.drew (((Below.refl _ _).alloc (by simp) _).alloc (by simp) _)
  have HQ4 : Hid (Below (w.heap.size + 2) ((w.alloc (.cells #[.int .i64 53, .int .i64 (-1022), .int .i64 1023, .int .i64 11] 66)).alloc (.cells #[.int .i64 0, .bool false, .pointer none, .int .i64 0] 88)) (((w.alloc (.cells #[.int .i64 53, .int .i64 (-1022), .int .i64 1023, .int .i64 11] 66)).alloc (.cells #[.int .i64 0, .bool false, .pointer none, .int .i64 0] 88)).alloc (.cells #[.int .i64 0, .bool false, .pointer none, .int .i64 0] 88)).drew) := Below.drew ((Below.refl _ _).alloc (by simp) _)
  have HZ1 : Hid (ZOk (w.heap.size + 2) ((((w.alloc (.cells #[.int .i64 53, .int .i64 (-1022), .int .i64 1023, .int .i64 11] 66)).alloc (.cells #[.int .i64 0, .bool false, .pointer none, .int .i64 0] 88)).alloc (.cells #[.bool false, .slice none 0 0] 73)).drew) ((((w.alloc (.cells #[.int .i64 53, .int .i64 (-1022), .int .i64 1023, .int .i64 11] 66)).alloc (.cells #[.int .i64 0, .bool false, .pointer none, .int .i64 0] 88)).alloc (.cells #[.bool false, .slice none 0 0] 73)).drew)) := (ZOk.drew (fresh_zok' ((w.alloc (.cells #[.int .i64 53, .int .i64 (-1022), .int .i64 1023, .int .i64 11] 66)).alloc (.cells #[.int .i64 0, .bool false, .pointer none, .int .i64 0] 88)) _ (by simp))).here
  have HZ2 : Hid (ZOk (w.heap.size + 2) (((((w.alloc (.cells #[.int .i64 53, .int .i64 (-1022), .int .i64 1023, .int .i64 11] 66)).alloc (.cells #[.int .i64 0, .bool false, .pointer none, .int .i64 0] 88)).alloc (.cells #[.bool false, .slice none 0 0] 73)).alloc (.cells #[.int .i64 0, .bool false, .pointer none, .int .i64 0] 88)).drew) (((((w.alloc (.cells #[.int .i64 53, .int .i64 (-1022), .int .i64 1023, .int .i64 11] 66)).alloc (.cells #[.int .i64 0, .bool false, .pointer none, .int .i64 0] 88)).alloc (.cells #[.bool false, .slice none 0 0] 73)).alloc (.cells #[.int .i64 0, .bool false, .pointer none, .int .i64 0] 88)).drew)) := (ZOk.drew (ZOk.below (fresh_zok' ((w.alloc (.cells #[.int .i64 53, .int .i64 (-1022), .int .i64 1023, .int .i64 11] 66)).alloc (.cells #[.int .i64 0, .bool false, .pointer none, .int .i64 0] 88)) _ (by simp)) (al_below _ _))).here
  have HZ3 : Hid (ZOk (w.heap.size + 3) (((((w.alloc (.cells #[.int .i64 53, .int .i64 (-1022), .int .i64 1023, .int .i64 11] 66)).alloc (.cells #[.int .i64 0, .bool false, .pointer none, .int .i64 0] 88)).alloc (.cells #[.int .i64 0, .bool false, .pointer none, .int .i64 0] 88)).alloc (.cells #[.bool false, .slice none 0 0] 73)).drew) (((((w.alloc (.cells #[.int .i64 53, .int .i64 (-1022), .int .i64 1023, .int .i64 11] 66)).alloc (.cells #[.int .i64 0, .bool false, .pointer none, .int .i64 0] 88)).alloc (.cells #[.int .i64 0, .bool false, .pointer none, .int .i64 0] 88)).alloc (.cells #[.bool false, .slice none 0 0] 73)).drew)) := (ZOk.drew (fresh_zok' (((w.alloc (.cells #[.int .i64 53, .int .i64 (-1022), .int .i64 1023, .int .i64 11] 66)).alloc (.cells #[.int .i64 0, .bool false, .pointer none, .int .i64 0] 88)).alloc (.cells #[.int .i64 0, .bool false, .pointer none, .int .i64 0] 88)) _ (by simp))).here
  have HS1 : Hid (∀ W z, Hid (Below (w.heap.size + 2) ((w.alloc (.cells #[.int .i64 53, .int .i64 (-1022), .int .i64 1023, .int .i64 11] 66)).alloc (.cells #[.int .i64 0, .bool false, .pointer none, .int .i64 0] 88)) W) → Hid (ZOk z W W) → w.heap.size + 2 ≤ z → Calls Tryz.prog 40 #[.pointer (some ⟨z, 0, none⟩), .int .u64 fr] W fun r w1 => r = .returned (.pointer (some ⟨z, 0, none⟩)) ∧ Hid (NumAt w1 z (fr : Int) 2) ∧ Hid (Below (w.heap.size + 2) ((w.alloc (.cells #[.int .i64 53, .int .i64 (-1022), .int .i64 1023, .int .i64 11] 66)).alloc (.cells #[.int .i64 0, .bool false, .pointer none, .int .i64 0] 88)) w1) ∧ Hid (But z W w1) ∧ w.heap.size + 3 ≤ w1.heap.size) := by
    intro W z hW hz hge
    refine (NSetU z fr _ hz.out (by have := HFRL.out; omega)).mono ?_
    rintro r w1 ⟨rfl, h1, b1⟩
    exact ⟨rfl, h1, hW.out.trans (b1.below (by have := hW.out.size; simp at this; omega) hge), b1, by have := h1.lt; omega⟩
  have HK2 : Hid ((((((w.alloc (.cells #[.int .i64 53, .int .i64 (-1022), .int .i64 1023, .int .i64 11] 66)).alloc (.cells #[.int .i64 0, .bool false, .pointer none, .int .i64 0] 88)).alloc (.cells #[.bool false, .slice none 0 0] 73)).alloc (.cells #[.int .i64 0, .bool false, .pointer none, .int .i64 0] 88)).drew).heap[w.heap.size + 3]? = some (.cells #[.int .i64 0, .bool false, .pointer none, .int .i64 0] 88)) := by
    have e : w.heap.size + 3 = (((w.alloc (.cells #[.int .i64 53, .int .i64 (-1022), .int .i64 1023, .int .i64 11] 66)).alloc (.cells #[.int .i64 0, .bool false, .pointer none, .int .i64 0] 88)).alloc (.cells #[.bool false, .slice none 0 0] 73)).heap.size := by simp
    show ((((w.alloc (.cells #[.int .i64 53, .int .i64 (-1022), .int .i64 1023, .int .i64 11] 66)).alloc (.cells #[.int .i64 0, .bool false, .pointer none, .int .i64 0] 88)).alloc (.cells #[.bool false, .slice none 0 0] 73)).heap.push _)[w.heap.size + 3]? = _
    rw [e, Array.getElem?_push_size]
  have HK3 : Hid ((((((w.alloc (.cells #[.int .i64 53, .int .i64 (-1022), .int .i64 1023, .int .i64 11] 66)).alloc (.cells #[.int .i64 0, .bool false, .pointer none, .int .i64 0] 88)).alloc (.cells #[.int .i64 0, .bool false, .pointer none, .int .i64 0] 88)).alloc (.cells #[.bool false, .slice none 0 0] 73)).drew).heap[w.heap.size + 2]? = some (.cells #[.int .i64 0, .bool false, .pointer none, .int .i64 0] 88)) := by
    have e : w.heap.size + 2 = ((w.alloc (.cells #[.int .i64 53, .int .i64 (-1022), .int .i64 1023, .int .i64 11] 66)).alloc (.cells #[.int .i64 0, .bool false, .pointer none, .int .i64 0] 88)).heap.size := by simp
    show ((((w.alloc (.cells #[.int .i64 53, .int .i64 (-1022), .int .i64 1023, .int .i64 11] 66)).alloc (.cells #[.int .i64 0, .bool false, .pointer none, .int .i64 0] 88)).heap.push _).push _)[w.heap.size + 2]? = _
    rw [Array.getElem?_push, if_neg (by rw [Array.size_push]; simp), e, Array.getElem?_push_size]
  have hsh : (IntKind.u64.wrap (IntKind.i64.wrap (IntKind.i64.wrap 52 + 11))).toNat = 63 := by decide +kernel
  go_enter Tryz.func54, Tryz.ntmps54
  go_wp2_with fail
  go_region_held3 (fun w' => (w'.cell? ⟨w.heap.size, 0, none⟩ = some (.int .i64 53) ∧ w'.cell? ⟨w.heap.size, 1, none⟩ = some (.int .i64 (-1022)) ∧ w'.cell? ⟨w.heap.size, 2, none⟩ = some (.int .i64 1023) ∧ w'.cell? ⟨w.heap.size, 3, none⟩ = some (.int .i64 11)) ∧ Hid (Below (w.heap.size + 2) ((w.alloc (.cells #[.int .i64 53, .int .i64 (-1022), .int .i64 1023, .int .i64 11] 66)).alloc (.cells #[.int .i64 0, .bool false, .pointer none, .int .i64 0] 88)) w'))
    ((refine HK.out _ ?_; first | assumption | (refine hid ?_; repeat (first | exact Hid.out (by assumption) | exact HQ0.out | exact HQ1.out | exact HQ2.out | exact HQ3.out | exact HQ4.out | refine Below.drew ?_ | refine Below.alloc ?_ (by first | omega | (simp; done) | (simp; omega)) _ | refine Below.setCell ?_ (by first | omega | (simp; done) | (simp; omega)) _))))
    (first | (go_at_call 40; refine (HS1.out _ _ (by first | exact HQ1 | exact HQ2 | exact HQ3) (by first | exact HZ1 | exact HZ2 | exact HZ3) (by omega)).mono ?_; rintro r w1 ⟨rfl, HN1, HF1, HBU, hz1⟩; (first | (have hnb := (HBU.out.block _ (by simp) (by omega)).trans HK2.out; obtain ⟨n0, n1, n2, n3, nf⟩ := num_cells hnb; have HNE := numE HN1.out (rblk HF1.out) hnb (by omega) (by omega); have HNB := hid hnb; clear hnb) | (have hnb := (HBU.out.block _ (by simp) (by omega)).trans HK3.out; obtain ⟨n0, n1, n2, n3, nf⟩ := num_cells hnb; have HNE := numE HN1.out (rblk HF1.out) hnb (by omega) (by omega); have HNB := hid hnb; clear hnb) | (have HNE := numE HN1.out (rblk HF1.out) (rblk HF1.out) (by omega) (by omega)))))
  all_goals obtain ⟨⟨f0, f1, f2, f3⟩, ⟨r0, r1, r2, r3⟩, rz⟩ := tcells HF1.out
  all_goals have hne0 : w.heap.size ≠ w1.heap.size := by omega
  all_goals have hne1 : w.heap.size + 1 ≠ w1.heap.size := by omega
  all_goals have hne2 : w1.heap.size ≠ w.heap.size := by omega
  all_goals have hne3 : w1.heap.size ≠ w.heap.size + 1 := by omega
  all_goals have hlt0 : w.heap.size < w1.heap.size := by omega
  all_goals have hlt1 : w.heap.size + 1 < w1.heap.size := by omega
  all_goals have HBE : Hid (Below w.heap.size w w1) := (al_below w _).trans ((al_below _ _).mono (by simp) |>.trans (HF1.out.mono (by omega)))
  all_goals clear HK HQ0 HQ1 HQ2 HQ3 HQ4 HZ1 HZ2 HZ3 HS1 HK2 HK3
  all_goals clear HBU
  all_goals go_wp2
  · exact bodyPost_ret (v := .agg #[.int .i64 0, .bool ng, .pointer (some ⟨w.heap.size + 1 + 1, 0, none⟩), .int .i64 (-1074)]) (by simp [results, Tryz.results54, go_sem, r0, r1, r2, r3, hlt1]) rfl ⟨_, rfl, HNE.out _ (by repeat (first | with_reducible refine Upd.alloc ?_ _ | with_reducible refine Upd.setr ?_ _ _ | with_reducible refine Upd.setn ?_ _ _ | with_reducible refine Upd.setnew ?_ _ _ | with_reducible exact Upd.refl _ _ _)), (show Upd (w.heap.size + 1) (w.heap.size + 1) w1 _ from by repeat (first | with_reducible refine Upd.alloc ?_ _ | with_reducible refine Upd.setr ?_ _ _ | with_reducible refine Upd.setn ?_ _ _ | with_reducible refine Upd.setnew ?_ _ _ | with_reducible exact Upd.refl _ _ _)).below HBE.out (by omega) (by omega)⟩
  · exact bodyPost_ret (v := .agg #[.int .i64 0, .bool ng, .pointer (some ⟨w.heap.size + 1 + 1, 0, none⟩), .int .i64 (-1074)]) (by simp [results, Tryz.results54, go_sem, r0, r1, r2, r3]) rfl ⟨_, rfl, HNE.out _ (by repeat (first | with_reducible refine Upd.alloc ?_ _ | with_reducible refine Upd.setr ?_ _ _ | with_reducible refine Upd.setn ?_ _ _ | with_reducible refine Upd.setnew ?_ _ _ | with_reducible exact Upd.refl _ _ _)), (show Upd (w.heap.size + 1) (w.heap.size + 3) w1 _ from by repeat (first | with_reducible refine Upd.alloc ?_ _ | with_reducible refine Upd.setr ?_ _ _ | with_reducible refine Upd.setn ?_ _ _ | with_reducible refine Upd.setnew ?_ _ _ | with_reducible exact Upd.refl _ _ _)).below HBE.out (by omega) (by omega)⟩
  · exact bodyPost_ret (v := .agg #[.int .i64 0, .bool ng, .pointer (some ⟨w.heap.size + 1 + 1 + 1, 0, none⟩), .int .i64 (-1074)]) (by simp [results, Tryz.results54, go_sem, r0, r1, r2, r3]) rfl ⟨_, rfl, HNE.out _ (by repeat (first | with_reducible refine Upd.alloc ?_ _ | with_reducible refine Upd.setr ?_ _ _ | with_reducible refine Upd.setn ?_ _ _ | with_reducible refine Upd.setnew ?_ _ _ | with_reducible exact Upd.refl _ _ _)), (show Upd (w.heap.size + 1) (w.heap.size + 2) w1 _ from by repeat (first | with_reducible refine Upd.alloc ?_ _ | with_reducible refine Upd.setr ?_ _ _ | with_reducible refine Upd.setn ?_ _ _ | with_reducible refine Upd.setnew ?_ _ _ | with_reducible exact Upd.refl _ _ _)).below HBE.out (by omega) (by omega)⟩
end Go.Proofs.YtpgcelbgmpfliaaGreatDoor

namespace Go.Proofs.YtpgcelbgmpfliaaGreatDoor
open Go.RowKit Go.IntWalk

set_option maxHeartbeats 4000000 in
theorem Take64_norm (x : Nat) (w : World) (hx : x < 18446744073709551616) (h : x / 4503599627370496 % 2048 ≠ 0) (h2 : x / 4503599627370496 % 2048 ≠ 2047) :
    Calls Tryz.prog 54 #[.agg #[.int .i64 53, .int .i64 (-1022), .int .i64 1023, .int .i64 11], .int .u64 x] w fun r w' => ∃ z, r = .returned (.agg #[.int .i64 0, .bool (decide (9223372036854775808 ≤ x)), .pointer (some ⟨z, 0, none⟩), .int .i64 (((x / 4503599627370496 % 2048 : Nat) : Int) - 1075)]) ∧ NumAt w' z ((x % 4503599627370496 + 4503599627370496 : Nat) : Int) 2 ∧ Below w.heap.size w w' := by
  have hfr : bits .and .u64 (x : Int) 4503599627370495 = ((x % 4503599627370496 : Nat) : Int) := and_mask x 52 (by omega) (by decide)
  have hfi : bits .and .u64 ((x : Int) / 4503599627370496) 2047 = ((x / 4503599627370496 % 2048 : Nat) : Int) := by
    have e : (x : Int) / 4503599627370496 = ((x / 4503599627370496 : Nat) : Int) := by omega
    rw [e]
    exact and_mask (x / 4503599627370496) 11 (by omega) (by decide)
  have hsg : bits .and .u64 ((x : Int) / 9223372036854775808) 1 = ((x / 9223372036854775808 : Nat) : Int) := by
    have e : (x : Int) / 9223372036854775808 = ((x / 9223372036854775808 : Nat) : Int) := by omega
    rw [e]
    have := and_mask (x / 9223372036854775808) 1 (by omega) (by decide)
    have e2 : x / 9223372036854775808 % 2 ^ 1 = x / 9223372036854775808 := by simp only [Nat.reducePow]; omega
    rw [e2] at this
    exact this
  have hng : (((x / 9223372036854775808 : Nat) : Int) == 1) = decide (9223372036854775808 ≤ x) := by
    by_cases h : 9223372036854775808 ≤ x
    · rw [decide_eq_true h, beq_iff_eq]; omega
    · rw [decide_eq_false h, beq_eq_false_iff_ne]; omega
  obtain ⟨fr, hFR⟩ : ∃ fr, Hid (x % 4503599627370496 = fr) := ⟨_, rfl⟩
  obtain ⟨fi, hFI⟩ : ∃ fi, Hid (x / 4503599627370496 % 2048 = fi) := ⟨_, rfl⟩
  obtain ⟨sg, hSG⟩ : ∃ sg, Hid (x / 9223372036854775808 = sg) := ⟨_, rfl⟩
  obtain ⟨ng, hNG⟩ : ∃ ng, Hid (decide (9223372036854775808 ≤ x) = ng) := ⟨_, rfl⟩
  have hfrl : fr < 4503599627370496 := by rw [← hFR.out]; omega
  have HFRL := hid hfrl
  rw [hFI.out] at hfi h
  rw [hFR.out] at hfr
  rw [hSG.out] at hsg hng
  rw [hNG.out] at hng
  rw [hFI.out] at h2
  rw [hNG.out, hFR.out, hFI.out]
  have hfb : fi < 2048 := by rw [← hFI.out]; exact Nat.mod_lt _ (by decide)
  have hfI : (fi : Int) ≤ 2046 := by omega
  have hf0 : (0 : Int) < (fi : Int) := by omega
  have hfne : ((fi : Int) == 2047) = false := by rw [beq_eq_false_iff_ne]; omega
  have hor : bits .or .u64 (fr : Int) 4503599627370496 = ((fr + 4503599627370496 : Nat) : Int) := by
    have hc : (4503599627370496 : Int) = ((4503599627370496 : Nat) : Int) := rfl
    rw [hc, u64_or_nat fr 4503599627370496 (by omega) (by decide), Nat.or_comm, Nat.add_comm]
    have := Nat.two_pow_add_eq_or_of_lt (i := 52) (b := fr) (by simpa using hfrl) 1
    simp only [Nat.reducePow, Nat.mul_one] at this
    rw [← this]
  obtain ⟨mm, hmm⟩ : ∃ mm, Hid (fr + 4503599627370496 = mm) := ⟨_, rfl⟩
  rw [hmm.out] at hor ⊢
  have HMM : Hid (mm < 18446744073709551616) := by rw [← hmm.out]; show fr + 4503599627370496 < _; omega
  have hE1 : (fi : Int) - 1 + (-1022) - 53 + 1 = (fi : Int) - 1075 := by omega
  clear hfrl hx h h2 hfb
  have HK : Hid (∀ w', Hid (Below (w.heap.size + 2) ((w.alloc (.cells #[.int .i64 53, .int .i64 (-1022), .int .i64 1023, .int .i64 11] 66)).alloc (.cells #[.int .i64 0, .bool false, .pointer none, .int .i64 0] 88)) w') → (w'.cell? ⟨w.heap.size, 0, none⟩ = some (.int .i64 53) ∧ w'.cell? ⟨w.heap.size, 1, none⟩ = some (.int .i64 (-1022)) ∧ w'.cell? ⟨w.heap.size, 2, none⟩ = some (.int .i64 1023) ∧ w'.cell? ⟨w.heap.size, 3, none⟩ = some (.int .i64 11)) ∧ Hid (Below (w.heap.size + 2) ((w.alloc (.cells #[.int .i64 53, .int .i64 (-1022), .int .i64 1023, .int .i64 11] 66)).alloc (.cells #[.int .i64 0, .bool false, .pointer none, .int .i64 0] 88)) w')) := fun w' h => ⟨(tcells h.out).1, h⟩
  have HQ0 : Hid (Below (w.heap.size + 2) ((w.alloc (.cells #[.int .i64 53, .int .i64 (-1022), .int .i64 1023, .int .i64 11] 66)).alloc (.cells #[.int .i64 0, .bool false, .pointer none, .int .i64 0] 88)) ((w.alloc (.cells #[.int .i64 53, .int .i64 (-1022), .int .i64 1023, .int .i64 11] 66)).alloc (.cells #[.int .i64 0, .bool false, .pointer none, .int .i64 0] 88)).drew) := Below.drew (Below.refl _ _)
  have HQ1 : Hid (Below (w.heap.size + 2) ((w.alloc (.cells #[.int .i64 53, .int .i64 (-1022), .int .i64 1023, .int .i64 11] 66)).alloc (.cells #[.int .i64 0, .bool false, .pointer none, .int .i64 0] 88)) (((w.alloc (.cells #[.int .i64 53, .int .i64 (-1022), .int .i64 1023, .int .i64 11] 66)).alloc (.cells #[.int .i64 0, .bool false, .pointer none, .int .i64 0] 88)).alloc (.cells #[.bool false, .slice none 0 0] 73)).drew) := Below.drew ((Below.refl _ _).alloc (by simp) _)
  have HQ2 : Hid (Below (w.heap.size + 2) ((w.alloc (.cells #[.int .i64 53, .int .i64 (-1022), .int .i64 1023, .int .i64 11] 66)).alloc (.cells #[.int .i64 0, .bool false, .pointer none, .int .i64 0] 88)) ((((w.alloc (.cells #[.int .i64 53, .int .i64 (-1022), .int .i64 1023, .int .i64 11] 66)).alloc (.cells #[.int .i64 0, .bool false, .pointer none, .int .i64 0] 88)).alloc (.cells #[.bool false, .slice none 0 0] 73)).alloc (.cells #[.int .i64 0, .bool false, .pointer none, .int .i64 0] 88)).drew) := Below.drew (((Below.refl _ _).alloc (by simp) _).alloc (by simp) _)
  have HQ3 : Hid (Below (w.heap.size + 2) ((w.alloc (.cells #[.int .i64 53, .int .i64 (-1022), .int .i64 1023, .int .i64 11] 66)).alloc (.cells #[.int .i64 0, .bool false, .pointer none, .int .i64 0] 88)) ((((w.alloc (.cells #[.int .i64 53, .int .i64 (-1022), .int .i64 1023, .int .i64 11] 66)).alloc (.cells #[.int .i64 0, .bool false, .pointer none, .int .i64 0] 88)).alloc (.cells #[.int .i64 0, .bool false, .pointer none, .int .i64 0] 88)).alloc (.cells #[.bool false, .slice none 0 0] 73)).drew) := Below.drew (((Below.refl _ _).alloc (by simp) _).alloc (by simp) _)
  have HQ4 : Hid (Below (w.heap.size + 2) ((w.alloc (.cells #[.int .i64 53, .int .i64 (-1022), .int .i64 1023, .int .i64 11] 66)).alloc (.cells #[.int .i64 0, .bool false, .pointer none, .int .i64 0] 88)) (((w.alloc (.cells #[.int .i64 53, .int .i64 (-1022), .int .i64 1023, .int .i64 11] 66)).alloc (.cells #[.int .i64 0, .bool false, .pointer none, .int .i64 0] 88)).alloc (.cells #[.int .i64 0, .bool false, .pointer none, .int .i64 0] 88)).drew) := Below.drew ((Below.refl _ _).alloc (by simp) _)
  have HZ1 : Hid (ZOk (w.heap.size + 2) ((((w.alloc (.cells #[.int .i64 53, .int .i64 (-1022), .int .i64 1023, .int .i64 11] 66)).alloc (.cells #[.int .i64 0, .bool false, .pointer none, .int .i64 0] 88)).alloc (.cells #[.bool false, .slice none 0 0] 73)).drew) ((((w.alloc (.cells #[.int .i64 53, .int .i64 (-1022), .int .i64 1023, .int .i64 11] 66)).alloc (.cells #[.int .i64 0, .bool false, .pointer none, .int .i64 0] 88)).alloc (.cells #[.bool false, .slice none 0 0] 73)).drew)) := (ZOk.drew (fresh_zok' ((w.alloc (.cells #[.int .i64 53, .int .i64 (-1022), .int .i64 1023, .int .i64 11] 66)).alloc (.cells #[.int .i64 0, .bool false, .pointer none, .int .i64 0] 88)) _ (by simp))).here
  have HZ2 : Hid (ZOk (w.heap.size + 2) (((((w.alloc (.cells #[.int .i64 53, .int .i64 (-1022), .int .i64 1023, .int .i64 11] 66)).alloc (.cells #[.int .i64 0, .bool false, .pointer none, .int .i64 0] 88)).alloc (.cells #[.bool false, .slice none 0 0] 73)).alloc (.cells #[.int .i64 0, .bool false, .pointer none, .int .i64 0] 88)).drew) (((((w.alloc (.cells #[.int .i64 53, .int .i64 (-1022), .int .i64 1023, .int .i64 11] 66)).alloc (.cells #[.int .i64 0, .bool false, .pointer none, .int .i64 0] 88)).alloc (.cells #[.bool false, .slice none 0 0] 73)).alloc (.cells #[.int .i64 0, .bool false, .pointer none, .int .i64 0] 88)).drew)) := (ZOk.drew (ZOk.below (fresh_zok' ((w.alloc (.cells #[.int .i64 53, .int .i64 (-1022), .int .i64 1023, .int .i64 11] 66)).alloc (.cells #[.int .i64 0, .bool false, .pointer none, .int .i64 0] 88)) _ (by simp)) (al_below _ _))).here
  have HZ3 : Hid (ZOk (w.heap.size + 3) (((((w.alloc (.cells #[.int .i64 53, .int .i64 (-1022), .int .i64 1023, .int .i64 11] 66)).alloc (.cells #[.int .i64 0, .bool false, .pointer none, .int .i64 0] 88)).alloc (.cells #[.int .i64 0, .bool false, .pointer none, .int .i64 0] 88)).alloc (.cells #[.bool false, .slice none 0 0] 73)).drew) (((((w.alloc (.cells #[.int .i64 53, .int .i64 (-1022), .int .i64 1023, .int .i64 11] 66)).alloc (.cells #[.int .i64 0, .bool false, .pointer none, .int .i64 0] 88)).alloc (.cells #[.int .i64 0, .bool false, .pointer none, .int .i64 0] 88)).alloc (.cells #[.bool false, .slice none 0 0] 73)).drew)) := (ZOk.drew (fresh_zok' (((w.alloc (.cells #[.int .i64 53, .int .i64 (-1022), .int .i64 1023, .int .i64 11] 66)).alloc (.cells #[.int .i64 0, .bool false, .pointer none, .int .i64 0] 88)).alloc (.cells #[.int .i64 0, .bool false, .pointer none, .int .i64 0] 88)) _ (by simp))).here
  have HS1 : Hid (∀ W z, Hid (Below (w.heap.size + 2) ((w.alloc (.cells #[.int .i64 53, .int .i64 (-1022), .int .i64 1023, .int .i64 11] 66)).alloc (.cells #[.int .i64 0, .bool false, .pointer none, .int .i64 0] 88)) W) → Hid (ZOk z W W) → w.heap.size + 2 ≤ z → Calls Tryz.prog 40 #[.pointer (some ⟨z, 0, none⟩), .int .u64 fr] W fun r w1 => r = .returned (.pointer (some ⟨z, 0, none⟩)) ∧ Hid (NumAt w1 z (fr : Int) 2) ∧ Hid (Below (w.heap.size + 2) ((w.alloc (.cells #[.int .i64 53, .int .i64 (-1022), .int .i64 1023, .int .i64 11] 66)).alloc (.cells #[.int .i64 0, .bool false, .pointer none, .int .i64 0] 88)) w1) ∧ Hid (But z W w1) ∧ w.heap.size + 3 ≤ w1.heap.size) := by
    intro W z hW hz hge
    refine (NSetU z fr _ hz.out (by have := HFRL.out; omega)).mono ?_
    rintro r w1 ⟨rfl, h1, b1⟩
    exact ⟨rfl, h1, hW.out.trans (b1.below (by have := hW.out.size; simp at this; omega) hge), b1, by have := h1.lt; omega⟩
  have HK2 : Hid ((((((w.alloc (.cells #[.int .i64 53, .int .i64 (-1022), .int .i64 1023, .int .i64 11] 66)).alloc (.cells #[.int .i64 0, .bool false, .pointer none, .int .i64 0] 88)).alloc (.cells #[.bool false, .slice none 0 0] 73)).alloc (.cells #[.int .i64 0, .bool false, .pointer none, .int .i64 0] 88)).drew).heap[w.heap.size + 3]? = some (.cells #[.int .i64 0, .bool false, .pointer none, .int .i64 0] 88)) := by
    have e : w.heap.size + 3 = (((w.alloc (.cells #[.int .i64 53, .int .i64 (-1022), .int .i64 1023, .int .i64 11] 66)).alloc (.cells #[.int .i64 0, .bool false, .pointer none, .int .i64 0] 88)).alloc (.cells #[.bool false, .slice none 0 0] 73)).heap.size := by simp
    show ((((w.alloc (.cells #[.int .i64 53, .int .i64 (-1022), .int .i64 1023, .int .i64 11] 66)).alloc (.cells #[.int .i64 0, .bool false, .pointer none, .int .i64 0] 88)).alloc (.cells #[.bool false, .slice none 0 0] 73)).heap.push _)[w.heap.size + 3]? = _
    rw [e, Array.getElem?_push_size]
  have HK3 : Hid ((((((w.alloc (.cells #[.int .i64 53, .int .i64 (-1022), .int .i64 1023, .int .i64 11] 66)).alloc (.cells #[.int .i64 0, .bool false, .pointer none, .int .i64 0] 88)).alloc (.cells #[.int .i64 0, .bool false, .pointer none, .int .i64 0] 88)).alloc (.cells #[.bool false, .slice none 0 0] 73)).drew).heap[w.heap.size + 2]? = some (.cells #[.int .i64 0, .bool false, .pointer none, .int .i64 0] 88)) := by
    have e : w.heap.size + 2 = ((w.alloc (.cells #[.int .i64 53, .int .i64 (-1022), .int .i64 1023, .int .i64 11] 66)).alloc (.cells #[.int .i64 0, .bool false, .pointer none, .int .i64 0] 88)).heap.size := by simp
    show ((((w.alloc (.cells #[.int .i64 53, .int .i64 (-1022), .int .i64 1023, .int .i64 11] 66)).alloc (.cells #[.int .i64 0, .bool false, .pointer none, .int .i64 0] 88)).heap.push _).push _)[w.heap.size + 2]? = _
    rw [Array.getElem?_push, if_neg (by rw [Array.size_push]; simp), e, Array.getElem?_push_size]
  have hsh : (IntKind.u64.wrap (IntKind.i64.wrap (IntKind.i64.wrap 52 + 11))).toNat = 63 := by decide +kernel
  go_enter Tryz.func54, Tryz.ntmps54
  go_wp2_with fail
  go_region_held3 (fun w' => (w'.cell? ⟨w.heap.size, 0, none⟩ = some (.int .i64 53) ∧ w'.cell? ⟨w.heap.size, 1, none⟩ = some (.int .i64 (-1022)) ∧ w'.cell? ⟨w.heap.size, 2, none⟩ = some (.int .i64 1023) ∧ w'.cell? ⟨w.heap.size, 3, none⟩ = some (.int .i64 11)) ∧ Hid (Below (w.heap.size + 2) ((w.alloc (.cells #[.int .i64 53, .int .i64 (-1022), .int .i64 1023, .int .i64 11] 66)).alloc (.cells #[.int .i64 0, .bool false, .pointer none, .int .i64 0] 88)) w'))
    ((refine HK.out _ ?_; first | assumption | (refine hid ?_; repeat (first | exact Hid.out (by assumption) | exact HQ0.out | exact HQ1.out | exact HQ2.out | exact HQ3.out | exact HQ4.out | refine Below.drew ?_ | refine Below.alloc ?_ (by first | omega | (simp; done) | (simp; omega)) _ | refine Below.setCell ?_ (by first | omega | (simp; done) | (simp; omega)) _))))
    (first | (go_at_call 40; refine (HS1.out _ _ (by first | exact HQ1 | exact HQ2 | exact HQ3) (by first | exact HZ1 | exact HZ2 | exact HZ3) (by omega)).mono ?_; rintro r w1 ⟨rfl, HN1, HF1, HBU, hz1⟩; (first | (have hnb := (HBU.out.block _ (by simp) (by omega)).trans HK2.out; obtain ⟨n0, n1, n2, n3, nf⟩ := num_cells hnb; have HNE := numE HN1.out (rblk HF1.out) hnb (by omega) (by omega); have HNB := hid hnb; clear hnb) | (have hnb := (HBU.out.block _ (by simp) (by omega)).trans HK3.out; obtain ⟨n0, n1, n2, n3, nf⟩ := num_cells hnb; have HNE := numE HN1.out (rblk HF1.out) hnb (by omega) (by omega); have HNB := hid hnb; clear hnb) | (have HNE := numE HN1.out (rblk HF1.out) (rblk HF1.out) (by omega) (by omega)))))
  all_goals obtain ⟨⟨f0, f1, f2, f3⟩, ⟨r0, r1, r2, r3⟩, rz⟩ := tcells HF1.out
  all_goals have hne0 : w.heap.size ≠ w1.heap.size := by omega
  all_goals have hne1 : w.heap.size + 1 ≠ w1.heap.size := by omega
  all_goals have hne2 : w1.heap.size ≠ w.heap.size := by omega
  all_goals have hne3 : w1.heap.size ≠ w.heap.size + 1 := by omega
  all_goals have hlt0 : w.heap.size < w1.heap.size := by omega
  all_goals have hlt1 : w.heap.size + 1 < w1.heap.size := by omega
  all_goals have HBE : Hid (Below w.heap.size w w1) := (al_below w _).trans ((al_below _ _).mono (by simp) |>.trans (HF1.out.mono (by omega)))
  all_goals clear HK HQ0 HQ1 HQ2 HQ3 HQ4 HZ1 HZ2 HZ3 HS1 HK2 HK3
  all_goals clear HBU
  all_goals go_wp2_with fail
  · have HU : Hid (∀ W, Upd (w1.heap.size) (w1.heap.size) w1 W → W.heap[w.heap.size]? = some (.cells #[.int .i64 53, .int .i64 (-1022), .int .i64 1023, .int .i64 11] 66) ∧ W.heap[w.heap.size + 1]? = some (.cells #[.int .i64 0, .bool false, .pointer none, .int .i64 0] 88)) := fun W h => ⟨(h.block _ hlt0 (by omega) (by omega)).trans (fblk HF1.out), (h.block _ hlt1 (by omega) (by omega)).trans (rblk HF1.out)⟩
    refine (take_mid w _ (w.heap.size + 1 + 1) w.heap.size (w.heap.size + 1) (w1.heap.size) mm 2 (fr : Int) ((show Upd (w.heap.size + 1) (w.heap.size + 1) w1 _ from by repeat (first | with_reducible refine Upd.alloc ?_ _ | with_reducible refine Upd.setr ?_ _ _ | with_reducible refine Upd.setn ?_ _ _ | with_reducible refine Upd.setnew ?_ _ _ | with_reducible exact Upd.refl _ _ _)).below HBE.out (by omega) (by omega)) (HNE.out _ (by repeat (first | with_reducible refine Upd.alloc ?_ _ | with_reducible refine Upd.setr ?_ _ _ | with_reducible refine Upd.setn ?_ _ _ | with_reducible refine Upd.setnew ?_ _ _ | with_reducible exact Upd.refl _ _ _))) (HU.out _ (by repeat (first | with_reducible refine Upd.alloc ?_ _ | with_reducible refine Upd.setr ?_ _ _ | with_reducible refine Upd.setn ?_ _ _ | with_reducible refine Upd.setnew ?_ _ _ | with_reducible exact Upd.refl _ _ _))).1 (HU.out _ (by repeat (first | with_reducible refine Upd.alloc ?_ _ | with_reducible refine Upd.setr ?_ _ _ | with_reducible refine Upd.setn ?_ _ _ | with_reducible refine Upd.setnew ?_ _ _ | with_reducible exact Upd.refl _ _ _))).2 (by show (w1.heap.push _)[w1.heap.size]? = _; rw [Array.getElem?_push_size]) (by omega) (by omega) (by omega) (by omega) HMM.out).mono ?_
    rintro q w2 ⟨rfl, ⟨g0, g1, g2, g3⟩, ⟨s0, s1, s2, s3, sz⟩, ⟨t0, t1, t2, t3, tz⟩, HN2, HB2⟩
    clear f0 f1 f2 f3 r0 r1 r2 r3 rz HF1 HN1 HNE HBE HU
    go_wp2
    exact bodyPost_ret (v := .agg #[.int .i64 0, .bool ng, .pointer (some ⟨w.heap.size + 1 + 1, 0, none⟩), .int .i64 ((fi : Int) - 1075)]) (by simp [results, Tryz.results54, go_sem, s0, s1, s2, s3]) rfl ⟨_, rfl, HN2.out _ (by repeat (first | with_reducible refine Upd.alloc ?_ _ | with_reducible refine Upd.setr ?_ _ _ | with_reducible refine Upd.setn ?_ _ _ | with_reducible refine Upd.setnew ?_ _ _ | with_reducible exact Upd.refl _ _ _)), (show Upd (w.heap.size + 1) (w1.heap.size) w2 _ from by repeat (first | with_reducible refine Upd.alloc ?_ _ | with_reducible refine Upd.setr ?_ _ _ | with_reducible refine Upd.setn ?_ _ _ | with_reducible refine Upd.setnew ?_ _ _ | with_reducible exact Upd.refl _ _ _)).below HB2.out (by omega) (by omega)⟩
  · have HU : Hid (∀ W, Upd (w.heap.size + 3) (w.heap.size + 3) w1 W → W.heap[w.heap.size]? = some (.cells #[.int .i64 53, .int .i64 (-1022), .int .i64 1023, .int .i64 11] 66) ∧ W.heap[w.heap.size + 1]? = some (.cells #[.int .i64 0, .bool false, .pointer none, .int .i64 0] 88)) := fun W h => ⟨(h.block _ hlt0 (by omega) (by omega)).trans (fblk HF1.out), (h.block _ hlt1 (by omega) (by omega)).trans (rblk HF1.out)⟩
    refine (take_mid w _ (w.heap.size + 1 + 1) w.heap.size (w.heap.size + 1) (w.heap.size + 3) mm 2 (fr : Int) ((show Upd (w.heap.size + 1) (w.heap.size + 3) w1 _ from by repeat (first | with_reducible refine Upd.alloc ?_ _ | with_reducible refine Upd.setr ?_ _ _ | with_reducible refine Upd.setn ?_ _ _ | with_reducible refine Upd.setnew ?_ _ _ | with_reducible exact Upd.refl _ _ _)).below HBE.out (by omega) (by omega)) (HNE.out _ (by repeat (first | with_reducible refine Upd.alloc ?_ _ | with_reducible refine Upd.setr ?_ _ _ | with_reducible refine Upd.setn ?_ _ _ | with_reducible refine Upd.setnew ?_ _ _ | with_reducible exact Upd.refl _ _ _))) (HU.out _ (by repeat (first | with_reducible refine Upd.alloc ?_ _ | with_reducible refine Upd.setr ?_ _ _ | with_reducible refine Upd.setn ?_ _ _ | with_reducible refine Upd.setnew ?_ _ _ | with_reducible exact Upd.refl _ _ _))).1 (HU.out _ (by repeat (first | with_reducible refine Upd.alloc ?_ _ | with_reducible refine Upd.setr ?_ _ _ | with_reducible refine Upd.setn ?_ _ _ | with_reducible refine Upd.setnew ?_ _ _ | with_reducible exact Upd.refl _ _ _))).2 (set4 HNB.out) (by omega) (by omega) (by omega) (by omega) HMM.out).mono ?_
    rintro q w2 ⟨rfl, ⟨g0, g1, g2, g3⟩, ⟨s0, s1, s2, s3, sz⟩, ⟨t0, t1, t2, t3, tz⟩, HN2, HB2⟩
    clear f0 f1 f2 f3 r0 r1 r2 r3 rz HF1 HN1 HNE HBE HU
    go_wp2
    exact bodyPost_ret (v := .agg #[.int .i64 0, .bool ng, .pointer (some ⟨w.heap.size + 1 + 1, 0, none⟩), .int .i64 ((fi : Int) - 1075)]) (by simp [results, Tryz.results54, go_sem, s0, s1, s2, s3]) rfl ⟨_, rfl, HN2.out _ (by repeat (first | with_reducible refine Upd.alloc ?_ _ | with_reducible refine Upd.setr ?_ _ _ | with_reducible refine Upd.setn ?_ _ _ | with_reducible refine Upd.setnew ?_ _ _ | with_reducible exact Upd.refl _ _ _)), (show Upd (w.heap.size + 1) (w.heap.size + 3) w2 _ from by repeat (first | with_reducible refine Upd.alloc ?_ _ | with_reducible refine Upd.setr ?_ _ _ | with_reducible refine Upd.setn ?_ _ _ | with_reducible refine Upd.setnew ?_ _ _ | with_reducible exact Upd.refl _ _ _)).below HB2.out (by omega) (by omega)⟩
  · have HU : Hid (∀ W, Upd (w.heap.size + 2) (w.heap.size + 2) w1 W → W.heap[w.heap.size]? = some (.cells #[.int .i64 53, .int .i64 (-1022), .int .i64 1023, .int .i64 11] 66) ∧ W.heap[w.heap.size + 1]? = some (.cells #[.int .i64 0, .bool false, .pointer none, .int .i64 0] 88)) := fun W h => ⟨(h.block _ hlt0 (by omega) (by omega)).trans (fblk HF1.out), (h.block _ hlt1 (by omega) (by omega)).trans (rblk HF1.out)⟩
    refine (take_mid w _ (w.heap.size + 1 + 1 + 1) w.heap.size (w.heap.size + 1) (w.heap.size + 2) mm 2 (fr : Int) ((show Upd (w.heap.size + 1) (w.heap.size + 2) w1 _ from by repeat (first | with_reducible refine Upd.alloc ?_ _ | with_reducible refine Upd.setr ?_ _ _ | with_reducible refine Upd.setn ?_ _ _ | with_reducible refine Upd.setnew ?_ _ _ | with_reducible exact Upd.refl _ _ _)).below HBE.out (by omega) (by omega)) (HNE.out _ (by repeat (first | with_reducible refine Upd.alloc ?_ _ | with_reducible refine Upd.setr ?_ _ _ | with_reducible refine Upd.setn ?_ _ _ | with_reducible refine Upd.setnew ?_ _ _ | with_reducible exact Upd.refl _ _ _))) (HU.out _ (by repeat (first | with_reducible refine Upd.alloc ?_ _ | with_reducible refine Upd.setr ?_ _ _ | with_reducible refine Upd.setn ?_ _ _ | with_reducible refine Upd.setnew ?_ _ _ | with_reducible exact Upd.refl _ _ _))).1 (HU.out _ (by repeat (first | with_reducible refine Upd.alloc ?_ _ | with_reducible refine Upd.setr ?_ _ _ | with_reducible refine Upd.setn ?_ _ _ | with_reducible refine Upd.setnew ?_ _ _ | with_reducible exact Upd.refl _ _ _))).2 (set4 HNB.out) (by omega) (by omega) (by omega) (by omega) HMM.out).mono ?_
    rintro q w2 ⟨rfl, ⟨g0, g1, g2, g3⟩, ⟨s0, s1, s2, s3, sz⟩, ⟨t0, t1, t2, t3, tz⟩, HN2, HB2⟩
    clear f0 f1 f2 f3 r0 r1 r2 r3 rz HF1 HN1 HNE HBE HU
    go_wp2
    exact bodyPost_ret (v := .agg #[.int .i64 0, .bool ng, .pointer (some ⟨w.heap.size + 1 + 1 + 1, 0, none⟩), .int .i64 ((fi : Int) - 1075)]) (by simp [results, Tryz.results54, go_sem, s0, s1, s2, s3]) rfl ⟨_, rfl, HN2.out _ (by repeat (first | with_reducible refine Upd.alloc ?_ _ | with_reducible refine Upd.setr ?_ _ _ | with_reducible refine Upd.setn ?_ _ _ | with_reducible refine Upd.setnew ?_ _ _ | with_reducible exact Upd.refl _ _ _)), (show Upd (w.heap.size + 1) (w.heap.size + 2) w2 _ from by repeat (first | with_reducible refine Upd.alloc ?_ _ | with_reducible refine Upd.setr ?_ _ _ | with_reducible refine Upd.setn ?_ _ _ | with_reducible refine Upd.setnew ?_ _ _ | with_reducible exact Upd.refl _ _ _)).below HB2.out (by omega) (by omega)⟩
end Go.Proofs.YtpgcelbgmpfliaaGreatDoor

namespace Go.Proofs.YtpgcelbgmpfliaaGreatDoor
open Go.RowKit Go.IntWalk

set_option maxHeartbeats 4000000 in
theorem Take64_inf (x : Nat) (w : World) (hx : x < 18446744073709551616) (h : x / 4503599627370496 % 2048 = 2047) (h2 : x % 4503599627370496 = 0) :
    Calls Tryz.prog 54 #[.agg #[.int .i64 53, .int .i64 (-1022), .int .i64 1023, .int .i64 11], .int .u64 x] w fun r w' => ∃ z, r = .returned (.agg #[.int .i64 1, .bool (decide (9223372036854775808 ≤ x)), .pointer (some ⟨z, 0, none⟩), .int .i64 (-1074)]) ∧ Below w.heap.size w w' := by
  have hfr : bits .and .u64 (x : Int) 4503599627370495 = ((x % 4503599627370496 : Nat) : Int) := and_mask x 52 (by omega) (by decide)
  have hfi : bits .and .u64 ((x : Int) / 4503599627370496) 2047 = ((x / 4503599627370496 % 2048 : Nat) : Int) := by
    have e : (x : Int) / 4503599627370496 = ((x / 4503599627370496 : Nat) : Int) := by omega
    rw [e]
    exact and_mask (x / 4503599627370496) 11 (by omega) (by decide)
  have hsg : bits .and .u64 ((x : Int) / 9223372036854775808) 1 = ((x / 9223372036854775808 : Nat) : Int) := by
    have e : (x : Int) / 9223372036854775808 = ((x / 9223372036854775808 : Nat) : Int) := by omega
    rw [e]
    have := and_mask (x / 9223372036854775808) 1 (by omega) (by decide)
    have e2 : x / 9223372036854775808 % 2 ^ 1 = x / 9223372036854775808 := by simp only [Nat.reducePow]; omega
    rw [e2] at this
    exact this
  have hng : (((x / 9223372036854775808 : Nat) : Int) == 1) = decide (9223372036854775808 ≤ x) := by
    by_cases h : 9223372036854775808 ≤ x
    · rw [decide_eq_true h, beq_iff_eq]; omega
    · rw [decide_eq_false h, beq_eq_false_iff_ne]; omega
  obtain ⟨fr, hFR⟩ : ∃ fr, Hid (x % 4503599627370496 = fr) := ⟨_, rfl⟩
  obtain ⟨fi, hFI⟩ : ∃ fi, Hid (x / 4503599627370496 % 2048 = fi) := ⟨_, rfl⟩
  obtain ⟨sg, hSG⟩ : ∃ sg, Hid (x / 9223372036854775808 = sg) := ⟨_, rfl⟩
  obtain ⟨ng, hNG⟩ : ∃ ng, Hid (decide (9223372036854775808 ≤ x) = ng) := ⟨_, rfl⟩
  have hfrl : fr < 4503599627370496 := by rw [← hFR.out]; omega
  have HFRL := hid hfrl
  rw [hFI.out] at hfi h
  rw [hFR.out] at hfr
  rw [hSG.out] at hsg hng
  rw [hNG.out] at hng
  rw [hFR.out] at h2
  rw [hNG.out]
  have hfi2 : bits .and .u64 ((x : Int) / 4503599627370496) 2047 = 2047 := by rw [hfi, h]; rfl
  have hfz : ((fr : Int) == 0) = true := by rw [h2]; rfl
  clear hfi hfrl hx h h2
  have HK : Hid (∀ w', Hid (Below (w.heap.size + 2) ((w.alloc (.cells #[.int .i64 53, .int .i64 (-1022), .int .i64 1023, .int .i64 11] 66)).alloc (.cells #[.int .i64 0, .bool false, .pointer none, .int .i64 0] 88)) w') → (w'.cell? ⟨w.heap.size, 0, none⟩ = some (.int .i64 53) ∧ w'.cell? ⟨w.heap.size, 1, none⟩ = some (.int .i64 (-1022)) ∧ w'.cell? ⟨w.heap.size, 2, none⟩ = some (.int .i64 1023) ∧ w'.cell? ⟨w.heap.size, 3, none⟩ = some (.int .i64 11)) ∧ Hid (Below (w.heap.size + 2) ((w.alloc (.cells #[.int .i64 53, .int .i64 (-1022), .int .i64 1023, .int .i64 11] 66)).alloc (.cells #[.int .i64 0, .bool false, .pointer none, .int .i64 0] 88)) w')) := fun w' h => ⟨(tcells h.out).1, h⟩
  have HQ0 : Hid (Below (w.heap.size + 2) ((w.alloc (.cells #[.int .i64 53, .int .i64 (-1022), .int .i64 1023, .int .i64 11] 66)).alloc (.cells #[.int .i64 0, .bool false, .pointer none, .int .i64 0] 88)) ((w.alloc (.cells #[.int .i64 53, .int .i64 (-1022), .int .i64 1023, .int .i64 11] 66)).alloc (.cells #[.int .i64 0, .bool false, .pointer none, .int .i64 0] 88)).drew) := Below.drew (Below.refl _ _)
  have HQ1 : Hid (Below (w.heap.size + 2) ((w.alloc (.cells #[.int .i64 53, .int .i64 (-1022), .int .i64 1023, .int .i64 11] 66)).alloc (.cells #[.int .i64 0, .bool false, .pointer none, .int .i64 0] 88)) (((w.alloc (.cells #[.int .i64 53, .int .i64 (-1022), .int .i64 1023, .int .i64 11] 66)).alloc (.cells #[.int .i64 0, .bool false, .pointer none, .int .i64 0] 88)).alloc (.cells #[.bool false, .slice none 0 0] 73)).drew) := Below.drew ((Below.refl _ _).alloc (by simp) _)
  have HQ2 : Hid (Below (w.heap.size + 2) ((w.alloc (.cells #[.int .i64 53, .int .i64 (-1022), .int .i64 1023, .int .i64 11] 66)).alloc (.cells #[.int .i64 0, .bool false, .pointer none, .int .i64 0] 88)) ((((w.alloc (.cells #[.int .i64 53, .int .i64 (-1022), .int .i64 1023, .int .i64 11] 66)).alloc (.cells #[.int .i64 0, .bool false, .pointer none, .int .i64 0] 88)).alloc (.cells #[.bool false, .slice none 0 0] 73)).alloc (.cells #[.int .i64 0, .bool false, .pointer none, .int .i64 0] 88)).drew) := Below.drew (((Below.refl _ _).alloc (by simp) _).alloc (by simp) _)
  have HQ3 : Hid (Below (w.heap.size + 2) ((w.alloc (.cells #[.int .i64 53, .int .i64 (-1022), .int .i64 1023, .int .i64 11] 66)).alloc (.cells #[.int .i64 0, .bool false, .pointer none, .int .i64 0] 88)) ((((w.alloc (.cells #[.int .i64 53, .int .i64 (-1022), .int .i64 1023, .int .i64 11] 66)).alloc (.cells #[.int .i64 0, .bool false, .pointer none, .int .i64 0] 88)).alloc (.cells #[.int .i64 0, .bool false, .pointer none, .int .i64 0] 88)).alloc (.cells #[.bool false, .slice none 0 0] 73)).drew) := Below.drew (((Below.refl _ _).alloc (by simp) _).alloc (by simp) _)
  have HQ4 : Hid (Below (w.heap.size + 2) ((w.alloc (.cells #[.int .i64 53, .int .i64 (-1022), .int .i64 1023, .int .i64 11] 66)).alloc (.cells #[.int .i64 0, .bool false, .pointer none, .int .i64 0] 88)) (((w.alloc (.cells #[.int .i64 53, .int .i64 (-1022), .int .i64 1023, .int .i64 11] 66)).alloc (.cells #[.int .i64 0, .bool false, .pointer none, .int .i64 0] 88)).alloc (.cells #[.int .i64 0, .bool false, .pointer none, .int .i64 0] 88)).drew) := Below.drew ((Below.refl _ _).alloc (by simp) _)
  have HZ1 : Hid (ZOk (w.heap.size + 2) ((((w.alloc (.cells #[.int .i64 53, .int .i64 (-1022), .int .i64 1023, .int .i64 11] 66)).alloc (.cells #[.int .i64 0, .bool false, .pointer none, .int .i64 0] 88)).alloc (.cells #[.bool false, .slice none 0 0] 73)).drew) ((((w.alloc (.cells #[.int .i64 53, .int .i64 (-1022), .int .i64 1023, .int .i64 11] 66)).alloc (.cells #[.int .i64 0, .bool false, .pointer none, .int .i64 0] 88)).alloc (.cells #[.bool false, .slice none 0 0] 73)).drew)) := (ZOk.drew (fresh_zok' ((w.alloc (.cells #[.int .i64 53, .int .i64 (-1022), .int .i64 1023, .int .i64 11] 66)).alloc (.cells #[.int .i64 0, .bool false, .pointer none, .int .i64 0] 88)) _ (by simp))).here
  have HZ2 : Hid (ZOk (w.heap.size + 2) (((((w.alloc (.cells #[.int .i64 53, .int .i64 (-1022), .int .i64 1023, .int .i64 11] 66)).alloc (.cells #[.int .i64 0, .bool false, .pointer none, .int .i64 0] 88)).alloc (.cells #[.bool false, .slice none 0 0] 73)).alloc (.cells #[.int .i64 0, .bool false, .pointer none, .int .i64 0] 88)).drew) (((((w.alloc (.cells #[.int .i64 53, .int .i64 (-1022), .int .i64 1023, .int .i64 11] 66)).alloc (.cells #[.int .i64 0, .bool false, .pointer none, .int .i64 0] 88)).alloc (.cells #[.bool false, .slice none 0 0] 73)).alloc (.cells #[.int .i64 0, .bool false, .pointer none, .int .i64 0] 88)).drew)) := (ZOk.drew (ZOk.below (fresh_zok' ((w.alloc (.cells #[.int .i64 53, .int .i64 (-1022), .int .i64 1023, .int .i64 11] 66)).alloc (.cells #[.int .i64 0, .bool false, .pointer none, .int .i64 0] 88)) _ (by simp)) (al_below _ _))).here
  have HZ3 : Hid (ZOk (w.heap.size + 3) (((((w.alloc (.cells #[.int .i64 53, .int .i64 (-1022), .int .i64 1023, .int .i64 11] 66)).alloc (.cells #[.int .i64 0, .bool false, .pointer none, .int .i64 0] 88)).alloc (.cells #[.int .i64 0, .bool false, .pointer none, .int .i64 0] 88)).alloc (.cells #[.bool false, .slice none 0 0] 73)).drew) (((((w.alloc (.cells #[.int .i64 53, .int .i64 (-1022), .int .i64 1023, .int .i64 11] 66)).alloc (.cells #[.int .i64 0, .bool false, .pointer none, .int .i64 0] 88)).alloc (.cells #[.int .i64 0, .bool false, .pointer none, .int .i64 0] 88)).alloc (.cells #[.bool false, .slice none 0 0] 73)).drew)) := (ZOk.drew (fresh_zok' (((w.alloc (.cells #[.int .i64 53, .int .i64 (-1022), .int .i64 1023, .int .i64 11] 66)).alloc (.cells #[.int .i64 0, .bool false, .pointer none, .int .i64 0] 88)).alloc (.cells #[.int .i64 0, .bool false, .pointer none, .int .i64 0] 88)) _ (by simp))).here
  have HS1 : Hid (∀ W z, Hid (Below (w.heap.size + 2) ((w.alloc (.cells #[.int .i64 53, .int .i64 (-1022), .int .i64 1023, .int .i64 11] 66)).alloc (.cells #[.int .i64 0, .bool false, .pointer none, .int .i64 0] 88)) W) → Hid (ZOk z W W) → w.heap.size + 2 ≤ z → Calls Tryz.prog 40 #[.pointer (some ⟨z, 0, none⟩), .int .u64 fr] W fun r w1 => r = .returned (.pointer (some ⟨z, 0, none⟩)) ∧ Hid (NumAt w1 z (fr : Int) 2) ∧ Hid (Below (w.heap.size + 2) ((w.alloc (.cells #[.int .i64 53, .int .i64 (-1022), .int .i64 1023, .int .i64 11] 66)).alloc (.cells #[.int .i64 0, .bool false, .pointer none, .int .i64 0] 88)) w1) ∧ Hid (But z W w1) ∧ w.heap.size + 3 ≤ w1.heap.size) := by
    intro W z hW hz hge
    refine (NSetU z fr _ hz.out (by have := HFRL.out; omega)).mono ?_
    rintro r w1 ⟨rfl, h1, b1⟩
    exact ⟨rfl, h1, hW.out.trans (b1.below (by have := hW.out.size; simp at this; omega) hge), b1, by have := h1.lt; omega⟩
  have HK2 : Hid ((((((w.alloc (.cells #[.int .i64 53, .int .i64 (-1022), .int .i64 1023, .int .i64 11] 66)).alloc (.cells #[.int .i64 0, .bool false, .pointer none, .int .i64 0] 88)).alloc (.cells #[.bool false, .slice none 0 0] 73)).alloc (.cells #[.int .i64 0, .bool false, .pointer none, .int .i64 0] 88)).drew).heap[w.heap.size + 3]? = some (.cells #[.int .i64 0, .bool false, .pointer none, .int .i64 0] 88)) := by
    have e : w.heap.size + 3 = (((w.alloc (.cells #[.int .i64 53, .int .i64 (-1022), .int .i64 1023, .int .i64 11] 66)).alloc (.cells #[.int .i64 0, .bool false, .pointer none, .int .i64 0] 88)).alloc (.cells #[.bool false, .slice none 0 0] 73)).heap.size := by simp
    show ((((w.alloc (.cells #[.int .i64 53, .int .i64 (-1022), .int .i64 1023, .int .i64 11] 66)).alloc (.cells #[.int .i64 0, .bool false, .pointer none, .int .i64 0] 88)).alloc (.cells #[.bool false, .slice none 0 0] 73)).heap.push _)[w.heap.size + 3]? = _
    rw [e, Array.getElem?_push_size]
  have HK3 : Hid ((((((w.alloc (.cells #[.int .i64 53, .int .i64 (-1022), .int .i64 1023, .int .i64 11] 66)).alloc (.cells #[.int .i64 0, .bool false, .pointer none, .int .i64 0] 88)).alloc (.cells #[.int .i64 0, .bool false, .pointer none, .int .i64 0] 88)).alloc (.cells #[.bool false, .slice none 0 0] 73)).drew).heap[w.heap.size + 2]? = some (.cells #[.int .i64 0, .bool false, .pointer none, .int .i64 0] 88)) := by
    have e : w.heap.size + 2 = ((w.alloc (.cells #[.int .i64 53, .int .i64 (-1022), .int .i64 1023, .int .i64 11] 66)).alloc (.cells #[.int .i64 0, .bool false, .pointer none, .int .i64 0] 88)).heap.size := by simp
    show ((((w.alloc (.cells #[.int .i64 53, .int .i64 (-1022), .int .i64 1023, .int .i64 11] 66)).alloc (.cells #[.int .i64 0, .bool false, .pointer none, .int .i64 0] 88)).heap.push _).push _)[w.heap.size + 2]? = _
    rw [Array.getElem?_push, if_neg (by rw [Array.size_push]; simp), e, Array.getElem?_push_size]
  have hsh : (IntKind.u64.wrap (IntKind.i64.wrap (IntKind.i64.wrap 52 + 11))).toNat = 63 := by decide +kernel
  go_enter Tryz.func54, Tryz.ntmps54
  go_wp2_with fail
  go_region_held3 (fun w' => (w'.cell? ⟨w.heap.size, 0, none⟩ = some (.int .i64 53) ∧ w'.cell? ⟨w.heap.size, 1, none⟩ = some (.int .i64 (-1022)) ∧ w'.cell? ⟨w.heap.size, 2, none⟩ = some (.int .i64 1023) ∧ w'.cell? ⟨w.heap.size, 3, none⟩ = some (.int .i64 11)) ∧ Hid (Below (w.heap.size + 2) ((w.alloc (.cells #[.int .i64 53, .int .i64 (-1022), .int .i64 1023, .int .i64 11] 66)).alloc (.cells #[.int .i64 0, .bool false, .pointer none, .int .i64 0] 88)) w'))
    ((refine HK.out _ ?_; first | assumption | (refine hid ?_; repeat (first | exact Hid.out (by assumption) | exact HQ0.out | exact HQ1.out | exact HQ2.out | exact HQ3.out | exact HQ4.out | refine Below.drew ?_ | refine Below.alloc ?_ (by first | omega | (simp; done) | (simp; omega)) _ | refine Below.setCell ?_ (by first | omega | (simp; done) | (simp; omega)) _))))
    (first | (go_at_call 40; refine (HS1.out _ _ (by first | exact HQ1 | exact HQ2 | exact HQ3) (by first | exact HZ1 | exact HZ2 | exact HZ3) (by omega)).mono ?_; rintro r w1 ⟨rfl, HN1, HF1, HBU, hz1⟩; (first | (have hnb := (HBU.out.block _ (by simp) (by omega)).trans HK2.out; obtain ⟨n0, n1, n2, n3, nf⟩ := num_cells hnb; have HNE := numE HN1.out (rblk HF1.out) hnb (by omega) (by omega); have HNB := hid hnb; clear hnb) | (have hnb := (HBU.out.block _ (by simp) (by omega)).trans HK3.out; obtain ⟨n0, n1, n2, n3, nf⟩ := num_cells hnb; have HNE := numE HN1.out (rblk HF1.out) hnb (by omega) (by omega); have HNB := hid hnb; clear hnb) | (have HNE := numE HN1.out (rblk HF1.out) (rblk HF1.out) (by omega) (by omega)))))
  all_goals obtain ⟨⟨f0, f1, f2, f3⟩, ⟨r0, r1, r2, r3⟩, rz⟩ := tcells HF1.out
  all_goals have hne0 : w.heap.size ≠ w1.heap.size := by omega
  all_goals have hne1 : w.heap.size + 1 ≠ w1.heap.size := by omega
  all_goals have hne2 : w1.heap.size ≠ w.heap.size := by omega
  all_goals have hne3 : w1.heap.size ≠ w.heap.size + 1 := by omega
  all_goals have hlt0 : w.heap.size < w1.heap.size := by omega
  all_goals have hlt1 : w.heap.size + 1 < w1.heap.size := by omega
  all_goals have HBE : Hid (Below w.heap.size w w1) := (al_below w _).trans ((al_below _ _).mono (by simp) |>.trans (HF1.out.mono (by omega)))
  all_goals clear HK HQ0 HQ1 HQ2 HQ3 HQ4 HZ1 HZ2 HZ3 HS1 HK2 HK3
  all_goals clear HBU
  all_goals go_wp2
  · exact bodyPost_ret (v := .agg #[.int .i64 1, .bool ng, .pointer (some ⟨w.heap.size + 1 + 1, 0, none⟩), .int .i64 (-1074)]) (by simp [results, Tryz.results54, go_sem, r0, r1, r2, r3, hlt1]) rfl ⟨_, rfl, (show Upd (w.heap.size + 1) (w.heap.size + 1) w1 _ from by repeat (first | with_reducible refine Upd.alloc ?_ _ | with_reducible refine Upd.setr ?_ _ _ | with_reducible refine Upd.setn ?_ _ _ | with_reducible refine Upd.setnew ?_ _ _ | with_reducible exact Upd.refl _ _ _)).below HBE.out (by omega) (by omega)⟩
  · exact bodyPost_ret (v := .agg #[.int .i64 1, .bool ng, .pointer (some ⟨w.heap.size + 1 + 1, 0, none⟩), .int .i64 (-1074)]) (by simp [results, Tryz.results54, go_sem, r0, r1, r2, r3]) rfl ⟨_, rfl, (show Upd (w.heap.size + 1) (w.heap.size + 3) w1 _ from by repeat (first | with_reducible refine Upd.alloc ?_ _ | with_reducible refine Upd.setr ?_ _ _ | with_reducible refine Upd.setn ?_ _ _ | with_reducible refine Upd.setnew ?_ _ _ | with_reducible exact Upd.refl _ _ _)).below HBE.out (by omega) (by omega)⟩
  · exact bodyPost_ret (v := .agg #[.int .i64 1, .bool ng, .pointer (some ⟨w.heap.size + 1 + 1 + 1, 0, none⟩), .int .i64 (-1074)]) (by simp [results, Tryz.results54, go_sem, r0, r1, r2, r3]) rfl ⟨_, rfl, (show Upd (w.heap.size + 1) (w.heap.size + 2) w1 _ from by repeat (first | with_reducible refine Upd.alloc ?_ _ | with_reducible refine Upd.setr ?_ _ _ | with_reducible refine Upd.setn ?_ _ _ | with_reducible refine Upd.setnew ?_ _ _ | with_reducible exact Upd.refl _ _ _)).below HBE.out (by omega) (by omega)⟩
end Go.Proofs.YtpgcelbgmpfliaaGreatDoor

namespace Go.Proofs.YtpgcelbgmpfliaaGreatDoor
open Go.RowKit Go.IntWalk

set_option maxHeartbeats 4000000 in
theorem Take64_nan (x : Nat) (w : World) (hx : x < 18446744073709551616) (h : x / 4503599627370496 % 2048 = 2047) (h2 : x % 4503599627370496 ≠ 0) :
    Calls Tryz.prog 54 #[.agg #[.int .i64 53, .int .i64 (-1022), .int .i64 1023, .int .i64 11], .int .u64 x] w fun r w' => ∃ z, r = .returned (.agg #[.int .i64 2, .bool false, .pointer (some ⟨z, 0, none⟩), .int .i64 0]) ∧ Below w.heap.size w w' := by
  have hfr : bits .and .u64 (x : Int) 4503599627370495 = ((x % 4503599627370496 : Nat) : Int) := and_mask x 52 (by omega) (by decide)
  have hfi : bits .and .u64 ((x : Int) / 4503599627370496) 2047 = ((x / 4503599627370496 % 2048 : Nat) : Int) := by
    have e : (x : Int) / 4503599627370496 = ((x / 4503599627370496 : Nat) : Int) := by omega
    rw [e]
    exact and_mask (x / 4503599627370496) 11 (by omega) (by decide)
  have hsg : bits .and .u64 ((x : Int) / 9223372036854775808) 1 = ((x / 9223372036854775808 : Nat) : Int) := by
    have e : (x : Int) / 9223372036854775808 = ((x / 9223372036854775808 : Nat) : Int) := by omega
    rw [e]
    have := and_mask (x / 9223372036854775808) 1 (by omega) (by decide)
    have e2 : x / 9223372036854775808 % 2 ^ 1 = x / 9223372036854775808 := by simp only [Nat.reducePow]; omega
    rw [e2] at this
    exact this
  have hng : (((x / 9223372036854775808 : Nat) : Int) == 1) = decide (9223372036854775808 ≤ x) := by
    by_cases h : 9223372036854775808 ≤ x
    · rw [decide_eq_true h, beq_iff_eq]; omega
    · rw [decide_eq_false h, beq_eq_false_iff_ne]; omega
  obtain ⟨fr, hFR⟩ : ∃ fr, Hid (x % 4503599627370496 = fr) := ⟨_, rfl⟩
  obtain ⟨fi, hFI⟩ : ∃ fi, Hid (x / 4503599627370496 % 2048 = fi) := ⟨_, rfl⟩
  obtain ⟨sg, hSG⟩ : ∃ sg, Hid (x / 9223372036854775808 = sg) := ⟨_, rfl⟩
  obtain ⟨ng, hNG⟩ : ∃ ng, Hid (decide (9223372036854775808 ≤ x) = ng) := ⟨_, rfl⟩
  have hfrl : fr < 4503599627370496 := by rw [← hFR.out]; omega
  have HFRL := hid hfrl
  rw [hFI.out] at hfi h
  rw [hFR.out] at hfr
  rw [hSG.out] at hsg hng
  rw [hNG.out] at hng
  rw [hFR.out] at h2
  have hfi2 : bits .and .u64 ((x : Int) / 4503599627370496) 2047 = 2047 := by rw [hfi, h]; rfl
  have hfz : ((fr : Int) == 0) = false := by simpa using h2
  clear hfi hfrl hx h h2
  have HK : Hid (∀ w', Hid (Below (w.heap.size + 2) ((w.alloc (.cells #[.int .i64 53, .int .i64 (-1022), .int .i64 1023, .int .i64 11] 66)).alloc (.cells #[.int .i64 0, .bool false, .pointer none, .int .i64 0] 88)) w') → (w'.cell? ⟨w.heap.size, 0, none⟩ = some (.int .i64 53) ∧ w'.cell? ⟨w.heap.size, 1, none⟩ = some (.int .i64 (-1022)) ∧ w'.cell? ⟨w.heap.size, 2, none⟩ = some (.int .i64 1023) ∧ w'.cell? ⟨w.heap.size, 3, none⟩ = some (.int .i64 11)) ∧ Hid (Below (w.heap.size + 2) ((w.alloc (.cells #[.int .i64 53, .int .i64 (-1022), .int .i64 1023, .int .i64 11] 66)).alloc (.cells #[.int .i64 0, .bool false, .pointer none, .int .i64 0] 88)) w')) := fun w' h => ⟨(tcells h.out).1, h⟩
  have HQ0 : Hid (Below (w.heap.size + 2) ((w.alloc (.cells #[.int .i64 53, .int .i64 (-1022), .int .i64 1023, .int .i64 11] 66)).alloc (.cells #[.int .i64 0, .bool false, .pointer none, .int .i64 0] 88)) ((w.alloc (.cells #[.int .i64 53, .int .i64 (-1022), .int .i64 1023, .int .i64 11] 66)).alloc (.cells #[.int .i64 0, .bool false, .pointer none, .int .i64 0] 88)).drew) := Below.drew (Below.refl _ _)
  have HQ1 : Hid (Below (w.heap.size + 2) ((w.alloc (.cells #[.int .i64 53, .int .i64 (-1022), .int .i64 1023, .int .i64 11] 66)).alloc (.cells #[.int .i64 0, .bool false, .pointer none, .int .i64 0] 88)) (((w.alloc (.cells #[.int .i64 53, .int .i64 (-1022), .int .i64 1023, .int .i64 11] 66)).alloc (.cells #[.int .i64 0, .bool false, .pointer none, .int .i64 0] 88)).alloc (.cells #[.bool false, .slice none 0 0] 73)).drew) := Below.drew ((Below.refl _ _).alloc (by simp) _)
  have HQ2 : Hid (Below (w.heap.size + 2) ((w.alloc (.cells #[.int .i64 53, .int .i64 (-1022), .int .i64 1023, .int .i64 11] 66)).alloc (.cells #[.int .i64 0, .bool false, .pointer none, .int .i64 0] 88)) ((((w.alloc (.cells #[.int .i64 53, .int .i64 (-1022), .int .i64 1023, .int .i64 11] 66)).alloc (.cells #[.int .i64 0, .bool false, .pointer none, .int .i64 0] 88)).alloc (.cells #[.bool false, .slice none 0 0] 73)).alloc (.cells #[.int .i64 0, .bool false, .pointer none, .int .i64 0] 88)).drew) := Below.drew (((Below.refl _ _).alloc (by simp) _).alloc (by simp) _)
  have HQ3 : Hid (Below (w.heap.size + 2) ((w.alloc (.cells #[.int .i64 53, .int .i64 (-1022), .int .i64 1023, .int .i64 11] 66)).alloc (.cells #[.int .i64 0, .bool false, .pointer none, .int .i64 0] 88)) ((((w.alloc (.cells #[.int .i64 53, .int .i64 (-1022), .int .i64 1023, .int .i64 11] 66)).alloc (.cells #[.int .i64 0, .bool false, .pointer none, .int .i64 0] 88)).alloc (.cells #[.int .i64 0, .bool false, .pointer none, .int .i64 0] 88)).alloc (.cells #[.bool false, .slice none 0 0] 73)).drew) := Below.drew (((Below.refl _ _).alloc (by simp) _).alloc (by simp) _)
  have HQ4 : Hid (Below (w.heap.size + 2) ((w.alloc (.cells #[.int .i64 53, .int .i64 (-1022), .int .i64 1023, .int .i64 11] 66)).alloc (.cells #[.int .i64 0, .bool false, .pointer none, .int .i64 0] 88)) (((w.alloc (.cells #[.int .i64 53, .int .i64 (-1022), .int .i64 1023, .int .i64 11] 66)).alloc (.cells #[.int .i64 0, .bool false, .pointer none, .int .i64 0] 88)).alloc (.cells #[.int .i64 0, .bool false, .pointer none, .int .i64 0] 88)).drew) := Below.drew ((Below.refl _ _).alloc (by simp) _)
  have HZ1 : Hid (ZOk (w.heap.size + 2) ((((w.alloc (.cells #[.int .i64 53, .int .i64 (-1022), .int .i64 1023, .int .i64 11] 66)).alloc (.cells #[.int .i64 0, .bool false, .pointer none, .int .i64 0] 88)).alloc (.cells #[.bool false, .slice none 0 0] 73)).drew) ((((w.alloc (.cells #[.int .i64 53, .int .i64 (-1022), .int .i64 1023, .int .i64 11] 66)).alloc (.cells #[.int .i64 0, .bool false, .pointer none, .int .i64 0] 88)).alloc (.cells #[.bool false, .slice none 0 0] 73)).drew)) := (ZOk.drew (fresh_zok' ((w.alloc (.cells #[.int .i64 53, .int .i64 (-1022), .int .i64 1023, .int .i64 11] 66)).alloc (.cells #[.int .i64 0, .bool false, .pointer none, .int .i64 0] 88)) _ (by simp))).here
  have HZ2 : Hid (ZOk (w.heap.size + 2) (((((w.alloc (.cells #[.int .i64 53, .int .i64 (-1022), .int .i64 1023, .int .i64 11] 66)).alloc (.cells #[.int .i64 0, .bool false, .pointer none, .int .i64 0] 88)).alloc (.cells #[.bool false, .slice none 0 0] 73)).alloc (.cells #[.int .i64 0, .bool false, .pointer none, .int .i64 0] 88)).drew) (((((w.alloc (.cells #[.int .i64 53, .int .i64 (-1022), .int .i64 1023, .int .i64 11] 66)).alloc (.cells #[.int .i64 0, .bool false, .pointer none, .int .i64 0] 88)).alloc (.cells #[.bool false, .slice none 0 0] 73)).alloc (.cells #[.int .i64 0, .bool false, .pointer none, .int .i64 0] 88)).drew)) := (ZOk.drew (ZOk.below (fresh_zok' ((w.alloc (.cells #[.int .i64 53, .int .i64 (-1022), .int .i64 1023, .int .i64 11] 66)).alloc (.cells #[.int .i64 0, .bool false, .pointer none, .int .i64 0] 88)) _ (by simp)) (al_below _ _))).here
  have HZ3 : Hid (ZOk (w.heap.size + 3) (((((w.alloc (.cells #[.int .i64 53, .int .i64 (-1022), .int .i64 1023, .int .i64 11] 66)).alloc (.cells #[.int .i64 0, .bool false, .pointer none, .int .i64 0] 88)).alloc (.cells #[.int .i64 0, .bool false, .pointer none, .int .i64 0] 88)).alloc (.cells #[.bool false, .slice none 0 0] 73)).drew) (((((w.alloc (.cells #[.int .i64 53, .int .i64 (-1022), .int .i64 1023, .int .i64 11] 66)).alloc (.cells #[.int .i64 0, .bool false, .pointer none, .int .i64 0] 88)).alloc (.cells #[.int .i64 0, .bool false, .pointer none, .int .i64 0] 88)).alloc (.cells #[.bool false, .slice none 0 0] 73)).drew)) := (ZOk.drew (fresh_zok' (((w.alloc (.cells #[.int .i64 53, .int .i64 (-1022), .int .i64 1023, .int .i64 11] 66)).alloc (.cells #[.int .i64 0, .bool false, .pointer none, .int .i64 0] 88)).alloc (.cells #[.int .i64 0, .bool false, .pointer none, .int .i64 0] 88)) _ (by simp))).here
  have HS1 : Hid (∀ W z, Hid (Below (w.heap.size + 2) ((w.alloc (.cells #[.int .i64 53, .int .i64 (-1022), .int .i64 1023, .int .i64 11] 66)).alloc (.cells #[.int .i64 0, .bool false, .pointer none, .int .i64 0] 88)) W) → Hid (ZOk z W W) → w.heap.size + 2 ≤ z → Calls Tryz.prog 40 #[.pointer (some ⟨z, 0, none⟩), .int .u64 fr] W fun r w1 => r = .returned (.pointer (some ⟨z, 0, none⟩)) ∧ Hid (NumAt w1 z (fr : Int) 2) ∧ Hid (Below (w.heap.size + 2) ((w.alloc (.cells #[.int .i64 53, .int .i64 (-1022), .int .i64 1023, .int .i64 11] 66)).alloc (.cells #[.int .i64 0, .bool false, .pointer none, .int .i64 0] 88)) w1) ∧ Hid (But z W w1) ∧ w.heap.size + 3 ≤ w1.heap.size) := by
    intro W z hW hz hge
    refine (NSetU z fr _ hz.out (by have := HFRL.out; omega)).mono ?_
    rintro r w1 ⟨rfl, h1, b1⟩
    exact ⟨rfl, h1, hW.out.trans (b1.below (by have := hW.out.size; simp at this; omega) hge), b1, by have := h1.lt; omega⟩
  have HK2 : Hid ((((((w.alloc (.cells #[.int .i64 53, .int .i64 (-1022), .int .i64 1023, .int .i64 11] 66)).alloc (.cells #[.int .i64 0, .bool false, .pointer none, .int .i64 0] 88)).alloc (.cells #[.bool false, .slice none 0 0] 73)).alloc (.cells #[.int .i64 0, .bool false, .pointer none, .int .i64 0] 88)).drew).heap[w.heap.size + 3]? = some (.cells #[.int .i64 0, .bool false, .pointer none, .int .i64 0] 88)) := by
    have e : w.heap.size + 3 = (((w.alloc (.cells #[.int .i64 53, .int .i64 (-1022), .int .i64 1023, .int .i64 11] 66)).alloc (.cells #[.int .i64 0, .bool false, .pointer none, .int .i64 0] 88)).alloc (.cells #[.bool false, .slice none 0 0] 73)).heap.size := by simp
    show ((((w.alloc (.cells #[.int .i64 53, .int .i64 (-1022), .int .i64 1023, .int .i64 11] 66)).alloc (.cells #[.int .i64 0, .bool false, .pointer none, .int .i64 0] 88)).alloc (.cells #[.bool false, .slice none 0 0] 73)).heap.push _)[w.heap.size + 3]? = _
    rw [e, Array.getElem?_push_size]
  have HK3 : Hid ((((((w.alloc (.cells #[.int .i64 53, .int .i64 (-1022), .int .i64 1023, .int .i64 11] 66)).alloc (.cells #[.int .i64 0, .bool false, .pointer none, .int .i64 0] 88)).alloc (.cells #[.int .i64 0, .bool false, .pointer none, .int .i64 0] 88)).alloc (.cells #[.bool false, .slice none 0 0] 73)).drew).heap[w.heap.size + 2]? = some (.cells #[.int .i64 0, .bool false, .pointer none, .int .i64 0] 88)) := by
    have e : w.heap.size + 2 = ((w.alloc (.cells #[.int .i64 53, .int .i64 (-1022), .int .i64 1023, .int .i64 11] 66)).alloc (.cells #[.int .i64 0, .bool false, .pointer none, .int .i64 0] 88)).heap.size := by simp
    show ((((w.alloc (.cells #[.int .i64 53, .int .i64 (-1022), .int .i64 1023, .int .i64 11] 66)).alloc (.cells #[.int .i64 0, .bool false, .pointer none, .int .i64 0] 88)).heap.push _).push _)[w.heap.size + 2]? = _
    rw [Array.getElem?_push, if_neg (by rw [Array.size_push]; simp), e, Array.getElem?_push_size]
  have hsh : (IntKind.u64.wrap (IntKind.i64.wrap (IntKind.i64.wrap 52 + 11))).toNat = 63 := by decide +kernel
  go_enter Tryz.func54, Tryz.ntmps54
  go_wp2_with fail
  go_region_held3 (fun w' => (w'.cell? ⟨w.heap.size, 0, none⟩ = some (.int .i64 53) ∧ w'.cell? ⟨w.heap.size, 1, none⟩ = some (.int .i64 (-1022)) ∧ w'.cell? ⟨w.heap.size, 2, none⟩ = some (.int .i64 1023) ∧ w'.cell? ⟨w.heap.size, 3, none⟩ = some (.int .i64 11)) ∧ Hid (Below (w.heap.size + 2) ((w.alloc (.cells #[.int .i64 53, .int .i64 (-1022), .int .i64 1023, .int .i64 11] 66)).alloc (.cells #[.int .i64 0, .bool false, .pointer none, .int .i64 0] 88)) w'))
    ((refine HK.out _ ?_; first | assumption | (refine hid ?_; repeat (first | exact Hid.out (by assumption) | exact HQ0.out | exact HQ1.out | exact HQ2.out | exact HQ3.out | exact HQ4.out | refine Below.drew ?_ | refine Below.alloc ?_ (by first | omega | (simp; done) | (simp; omega)) _ | refine Below.setCell ?_ (by first | omega | (simp; done) | (simp; omega)) _))))
    (first | (go_at_call 40; refine (HS1.out _ _ (by first | exact HQ1 | exact HQ2 | exact HQ3) (by first | exact HZ1 | exact HZ2 | exact HZ3) (by omega)).mono ?_; rintro r w1 ⟨rfl, HN1, HF1, HBU, hz1⟩; (first | (have hnb := (HBU.out.block _ (by simp) (by omega)).trans HK2.out; obtain ⟨n0, n1, n2, n3, nf⟩ := num_cells hnb; have HNE := numE HN1.out (rblk HF1.out) hnb (by omega) (by omega); have HNB := hid hnb; clear hnb) | (have hnb := (HBU.out.block _ (by simp) (by omega)).trans HK3.out; obtain ⟨n0, n1, n2, n3, nf⟩ := num_cells hnb; have HNE := numE HN1.out (rblk HF1.out) hnb (by omega) (by omega); have HNB := hid hnb; clear hnb) | (have HNE := numE HN1.out (rblk HF1.out) (rblk HF1.out) (by omega) (by omega)))))
  all_goals obtain ⟨⟨f0, f1, f2, f3⟩, ⟨r0, r1, r2, r3⟩, rz⟩ := tcells HF1.out
  all_goals have hne0 : w.heap.size ≠ w1.heap.size := by omega
  all_goals have hne1 : w.heap.size + 1 ≠ w1.heap.size := by omega
  all_goals have hne2 : w1.heap.size ≠ w.heap.size := by omega
  all_goals have hne3 : w1.heap.size ≠ w.heap.size + 1 := by omega
  all_goals have hlt0 : w.heap.size < w1.heap.size := by omega
  all_goals have hlt1 : w.heap.size + 1 < w1.heap.size := by omega
  all_goals have HBE : Hid (Below w.heap.size w w1) := (al_below w _).trans ((al_below _ _).mono (by simp) |>.trans (HF1.out.mono (by omega)))
  all_goals clear HK HQ0 HQ1 HQ2 HQ3 HQ4 HZ1 HZ2 HZ3 HS1 HK2 HK3
  all_goals clear HBU
  all_goals go_wp2
  · exact bodyPost_ret (v := .agg #[.int .i64 2, .bool false, .pointer (some ⟨w1.heap.size + 1, 0, none⟩), .int .i64 0]) (by simp [results, Tryz.results54, go_sem, r0, r1, r2, r3, hlt0, hlt1]) rfl ⟨_, rfl, (show Upd (w.heap.size + 1) (w.heap.size + 1) w1 _ from by repeat (first | with_reducible refine Upd.alloc ?_ _ | with_reducible refine Upd.setr ?_ _ _ | with_reducible refine Upd.setn ?_ _ _ | with_reducible refine Upd.setnew ?_ _ _ | with_reducible exact Upd.refl _ _ _)).below HBE.out (by omega) (by omega)⟩
  · exact bodyPost_ret (v := .agg #[.int .i64 2, .bool false, .pointer (some ⟨w1.heap.size, 0, none⟩), .int .i64 0]) (by simp [results, Tryz.results54, go_sem, r0, r1, r2, r3, hlt1]) rfl ⟨_, rfl, (show Upd (w.heap.size + 1) (w.heap.size + 3) w1 _ from by repeat (first | with_reducible refine Upd.alloc ?_ _ | with_reducible refine Upd.setr ?_ _ _ | with_reducible refine Upd.setn ?_ _ _ | with_reducible refine Upd.setnew ?_ _ _ | with_reducible exact Upd.refl _ _ _)).below HBE.out (by omega) (by omega)⟩
  · exact bodyPost_ret (v := .agg #[.int .i64 2, .bool false, .pointer (some ⟨w1.heap.size, 0, none⟩), .int .i64 0]) (by simp [results, Tryz.results54, go_sem, r0, r1, r2, r3, hlt1]) rfl ⟨_, rfl, (show Upd (w.heap.size + 1) (w.heap.size + 2) w1 _ from by repeat (first | with_reducible refine Upd.alloc ?_ _ | with_reducible refine Upd.setr ?_ _ _ | with_reducible refine Upd.setn ?_ _ _ | with_reducible refine Upd.setnew ?_ _ _ | with_reducible exact Upd.refl _ _ _)).below HBE.out (by omega) (by omega)⟩
end Go.Proofs.YtpgcelbgmpfliaaGreatDoor
