
/- What dyad's Sum and Dot answer of what is not finite. -/
import Derived.Test.YtpncignipghicaaDoorDzD
import Derived.Test.YtpncignipghicaaDoorP17
import Derived.Test.YtpncignipghicaaDoorFloats
import Derived.Test.YtpncignipghicaaDoorP14
namespace Go.Proofs.YtpncignipghicaaDoor
open Go.RowKit Go.IntWalk

def BitL (zs : List Nat) : Prop := ∀ i, i < zs.length → zs.getD i 0 < 18446744073709551616
set_option maxHeartbeats 1000000 in
theorem Sum_bad (zs : List Nat) (b off cap : Nat) (w : World) (hm : NumsAt w b off zs) (hz : BitL zs) (hf : allFin zs = false) (hn : zs.length ≤ 140737488355328) :
    Calls Tryd.prog 18 #[.slice (some ⟨b, off, none⟩) zs.length cap] w fun r w' => r = .returned (.tuple #[.agg #[.bool false, .slice none 0 0, .int .i64 0], .int .i64 4]) ∧ Below w.heap.size w w' := by
  have HFI : Hid (∀ W, Below w.heap.size w W → Calls Tryd.prog 44 #[.slice (some ⟨b, off, none⟩) zs.length cap] W fun r w' => r = .returned (.bool false) ∧ Below W.heap.size W w') := fun W hW => by
    have hmW := hm.below hW
    have := Finite_any zs b off cap W hmW.1 hmW.2 hz hn
    rw [hf] at this
    exact this
  obtain ⟨n, hnl⟩ : ∃ n, Hid (zs.length = n) := ⟨_, rfl⟩
  rw [hnl.out] at HFI ⊢
  clear hm hz hf hn
  go_enter Tryd.func18, Tryd.ntmps18
  go_wp2_with fail
  refine (HFI.out _ ((Below.refl _ _).alloc (Nat.le_refl _) _)).mono ?_
  rintro r w1 ⟨rfl, hb1⟩
  have hsz : w.heap.size < w1.heap.size := by have := hb1.size; simp at this; omega
  obtain ⟨hc, hf⟩ := bcell hb1
  have HB1 : Hid (Below w.heap.size w w1) := ((Below.refl _ _).alloc (Nat.le_refl _) _).trans (hb1.mono (by simp))
  clear hb1
  go_wp2
  exact bodyPost_ret (v := .tuple #[.agg #[.bool false, .slice none 0 0, .int .i64 0], .int .i64 4]) (by simp [results, Tryd.results18, go_sem, hc]) rfl ⟨rfl, Below.setCell (Below.setCell (Below.setCell HB1.out (Nat.le_refl _) _) (Nat.le_refl _) _) (Nat.le_refl _) _⟩
set_option maxHeartbeats 1000000 in
theorem Dot_bad (xs ys : List Nat) (b off cap b2 off2 cap2 : Nat) (w : World) (hlen : ys.length = xs.length) (hm : NumsAt w b off xs) (hm2 : NumsAt w b2 off2 ys) (hz : BitL xs) (hz2 : BitL ys) (hf : (allFin xs && allFin ys) = false) (hn : xs.length ≤ 140737488355328) :
    Calls Tryd.prog 19 #[.slice (some ⟨b, off, none⟩) xs.length cap, .slice (some ⟨b2, off2, none⟩) ys.length cap2] w fun r w' => r = .returned (.tuple #[.agg #[.bool false, .slice none 0 0, .int .i64 0], .int .i64 4]) ∧ Below w.heap.size w w' := by
  have HFI : Hid (∀ W, Below w.heap.size w W → Calls Tryd.prog 44 #[.slice (some ⟨b, off, none⟩) xs.length cap] W fun r w' => r = .returned (.bool (allFin xs)) ∧ Below W.heap.size W w') := fun W hW => by
    have hmW := hm.below hW
    exact Finite_any xs b off cap W hmW.1 hmW.2 hz hn
  have HFI2 : Hid (∀ W, Below w.heap.size w W → Calls Tryd.prog 44 #[.slice (some ⟨b2, off2, none⟩) ys.length cap2] W fun r w' => r = .returned (.bool (allFin ys)) ∧ Below W.heap.size W w') := fun W hW => by
    have hmW := hm2.below hW
    exact Finite_any ys b2 off2 cap2 W hmW.1 hmW.2 hz2 (by omega)
  obtain ⟨n, hnl⟩ : ∃ n, Hid (xs.length = n) := ⟨_, rfl⟩
  have hnl2 : Hid (ys.length = n) := hlen.trans hnl.out
  rw [hnl.out] at HFI ⊢
  rw [hnl2.out] at HFI2 ⊢
  obtain ⟨f1, hf1⟩ : ∃ f, Hid (allFin xs = f) := ⟨_, rfl⟩
  obtain ⟨f2, hf2⟩ : ∃ f, Hid (allFin ys = f) := ⟨_, rfl⟩
  rw [hf1.out] at HFI hf
  rw [hf2.out] at HFI2 hf
  clear hm hm2 hz hz2 hn hlen hf1 hf2
  cases f1
  · clear hf HFI2
    go_enter Tryd.func19, Tryd.ntmps19
    go_wp2_with fail
    refine (HFI.out _ ((Below.refl _ _).alloc (Nat.le_refl _) _)).mono ?_
    rintro r w1 ⟨rfl, hb1⟩
    have hsz : w.heap.size < w1.heap.size := by have := hb1.size; simp at this; omega
    obtain ⟨hc, hf⟩ := bcell hb1
    have HB1 : Hid (Below w.heap.size w w1) := ((Below.refl _ _).alloc (Nat.le_refl _) _).trans (hb1.mono (by simp))
    clear hb1
    go_wp2
    exact bodyPost_ret (v := .tuple #[.agg #[.bool false, .slice none 0 0, .int .i64 0], .int .i64 4]) (by simp [results, Tryd.results19, go_sem, hc]) rfl ⟨rfl, Below.setCell (Below.setCell (Below.setCell HB1.out (Nat.le_refl _) _) (Nat.le_refl _) _) (Nat.le_refl _) _⟩
  · cases f2
    · clear hf
      go_enter Tryd.func19, Tryd.ntmps19
      go_wp2_with fail
      refine (HFI.out _ ((Below.refl _ _).alloc (Nat.le_refl _) _)).mono ?_
      rintro r w0 ⟨rfl, hb0⟩
      have HBW0 : Hid (Below w.heap.size w w0) := ((Below.refl _ _).alloc (Nat.le_refl _) _).trans (hb0.mono (by simp))
      have hsz0 : w.heap.size < w0.heap.size := by have := hb0.size; simp at this; omega
      obtain ⟨hc0, hf0⟩ := bcell hb0
      clear hb0
      go_wp2_with fail
      refine (HFI2.out _ HBW0.out).mono ?_
      rintro r w1 ⟨rfl, hb1⟩
      have hsz : w.heap.size < w1.heap.size := by have := hb1.size; omega
      obtain ⟨hc, hf⟩ := bcell hb1
      have HB1 : Hid (Below w.heap.size w w1) := HBW0.out.trans (hb1.mono HBW0.out.size)
      clear hb1
      go_wp2
      exact bodyPost_ret (v := .tuple #[.agg #[.bool false, .slice none 0 0, .int .i64 0], .int .i64 4]) (by simp [results, Tryd.results19, go_sem, hc, hc0, hsz0]) rfl ⟨rfl, Below.setCell (Below.setCell (Below.setCell HB1.out (Nat.le_refl _) _) (Nat.le_refl _) _) (Nat.le_refl _) _⟩
    · exact absurd hf (by decide)
end Go.Proofs.YtpncignipghicaaDoor

namespace Go.Proofs.YtpncignipghicaaDoor
open Go.RowKit Go.IntWalk

set_option maxHeartbeats 400000 in
theorem bits_any (x : Nat) (w : World) (hx : x < 18446744073709551616) :
    Calls Tryd.prog 98 #[.float .f64 x] w fun e w' => e = .returned (.int .u64 (canonOf x)) ∧ w' = w := by
  have h1 := f64bits
  have ho := order_self x hx
  by_cases h : 9218868437227405312 < x % 9223372036854775808
  · rw [decide_eq_true h] at ho
    have H : Hid (9218868437227405312 < x % 9223372036854775808) := h
    clear h
    go_enter Tryd.func98, Tryd.ntmps98
    go_wp2
    go_ret
    exact ⟨ret_int (by unfold canonOf; rw [if_pos H.out]; rfl), rfl⟩
  · rw [decide_eq_false h] at ho
    have H : Hid (¬ 9218868437227405312 < x % 9223372036854775808) := h
    clear h
    go_enter Tryd.func98, Tryd.ntmps98
    go_wp2
    go_ret
    exact ⟨ret_int (by unfold canonOf; rw [if_neg H.out]), rfl⟩

theorem neg_r {x : Nat} (hx : x < 18446744073709551616) : ((canonOf x : Int) / 9223372036854775808 == 1) = negOf x := by
  have hl := canon_lt hx
  unfold negOf
  rw [Bool.eq_iff_iff, beq_iff_eq, decide_eq_true_eq]
  omega
theorem exp_r {x : Nat} (hx : x < 18446744073709551616) : (canonOf x : Int) / 4503599627370496 % 2048 = (expOf x : Int) := by
  have hl := canon_lt hx
  unfold expOf
  omega
theorem frac_r (x : Nat) : (canonOf x : Int) % 4503599627370496 = (fracOf x : Int) := by
  unfold fracOf
  omega

set_option maxHeartbeats 400000 in
theorem rsplit_any (x : Nat) (w : World) (hx : x < 18446744073709551616) :
    Calls Tryd.prog 76 #[.float .f64 x] w fun e w' => e = .returned (.tuple #[.bool (negOf x), .int .i64 (expOf x), .int .u64 (fracOf x)]) ∧ w' = w := by
  go_enter Tryd.func76, Tryd.ntmps76
  go_wp2_with fail
  refine (bits_any x _ hx).mono ?_
  rintro e w' ⟨rfl, rfl⟩
  go_wp2_with fail
  go_ret3
  exact ⟨ret_bii (neg_r hx) (exp_r hx) (frac_r x), rfl⟩

set_option maxHeartbeats 400000 in
theorem classify_any (x : Nat) (w : World) :
    Calls Tryd.prog 77 #[.int .i64 (expOf x), .int .u64 (fracOf x), .int .i64 2047] w fun e w' => e = .returned (.int .i64 (classN x)) ∧ w' = w := by
  go_enter Tryd.func77, Tryd.ntmps77
  go_wp2
  all_goals (go_ret; refine ⟨ret_int ?_, rfl⟩; unfold classN; simp_all; try (split <;> first | rfl | omega))
set_option maxHeartbeats 400000 in
theorem rclass_any (x : Nat) (w : World) (hx : x < 18446744073709551616) :
    Calls Tryd.prog 49 #[.float .f64 x] w fun e w' => e = .returned (.int .i64 (classN x)) ∧ w' = w := by
  go_enter Tryd.func49, Tryd.ntmps49
  go_wp2_with fail
  refine (rsplit_any x _ hx).mono ?_
  rintro e w' ⟨rfl, rfl⟩
  go_wp2_with fail
  refine (classify_any x _).mono ?_
  rintro e w' ⟨rfl, rfl⟩
  go_wp2_with fail
  go_ret
  exact ⟨rfl, rfl⟩
theorem class_fin (x : Nat) : decide ((2 : Int) < (classN x : Int)) = !(expOf x == 2047) := by
  unfold classN
  by_cases h : expOf x = 2047
  · rw [if_pos h, h]; split <;> rfl
  · rw [if_neg h]
    have : (expOf x == 2047) = false := by simpa using h
    rw [this]
    split
    · split <;> rfl
    · rfl
set_option maxHeartbeats 400000 in
theorem rfinite_any (x : Nat) (w : World) (hx : x < 18446744073709551616) :
    Calls Tryd.prog 20 #[.float .f64 x] w fun r w' => r = .returned (.bool (!(expOf x == 2047))) ∧ w' = w := by
  go_enter Tryd.func20, Tryd.ntmps20
  go_wp2_with fail
  refine (rclass_any x _ hx).mono ?_
  rintro r w' ⟨rfl, rfl⟩
  go_wp2_with fail
  go_ret
  exact ⟨ret_bool (class_fin x), rfl⟩
end Go.Proofs.YtpncignipghicaaDoor
