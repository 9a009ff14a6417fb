
/- What the document's SetInt64, NewInt (of numbers not below 0) do. -/
import Derived.Test.YtfdphegiafccpaaP15
namespace Go.Proofs.Ytfdphegiafccpaa
open Go.RowKit Go.IntWalk

set_option maxHeartbeats 400000 in
theorem SetInt64_pos (z : Nat) (neg0 : Bool) (a0 : Option Addr) (n0 cap0 n : Nat) (w : World) (hz : w.heap[z]? = some (.cells #[.bool neg0, .slice a0 n0 cap0] 53)) (hn0 : n < 9223372036854775808) :
    Calls Try.prog 38 #[.pointer (some ⟨z, 0, none⟩), .int .i64 n] w fun r w' => r = .returned (.pointer (some ⟨z, 0, none⟩)) ∧ ∃ L', natL L' = n ∧ L'.length ≤ 2 ∧ BigAt w' z false L' ∧ But z w w' := by
  have hlt := (int_cells hz).2.2.2
  have hn : n < 18446744073709551616 := by omega
  have hwn : IntKind.u64.wrap (n : Int) = (n : Int) := by rw [IntKind.wrap_u64]; omega
  have hnn : ¬ (n : Int) < 0 := by omega
  have HW := hid (words_any n w hn)
  have HP : Hid (∀ T, Calls Try.prog 37 #[.pointer (some ⟨z, 0, none⟩), .bool false, .slice (some ⟨w.heap.size, 0, none⟩) (numW n) 2] (w.alloc (.cells #[.int .u32 (loW n), .int .u32 (hiW n)] T)) fun r w' => r = .returned (.pointer (some ⟨z, 0, none⟩)) ∧ ∃ L', natL L' = n ∧ L'.length ≤ 2 ∧ BigAt w' z false L' ∧ But z w w') := by
    intro T
    have hk : numW n ≤ 2 := by unfold numW; split <;> (try split) <;> omega
    have hlen : ([loW n, hiW n].take (numW n)).length = numW n := by rw [List.length_take]; exact Nat.min_eq_left hk
    have hm2 : MagAt (w.alloc (.cells #[.int .u32 (loW n), .int .u32 (hiW n)] T)) (some ⟨w.heap.size, 0, none⟩) [loW n, hiW n] := by
      intro i hi
      refine ⟨w.heap.size, 0, rfl, by simp, ?_⟩
      rcases (show i = 0 ∨ i = 1 by simp at hi; omega) with rfl | rfl
      · simp [go_sem]
      · simp [go_sem]
    have hb : But z w (w.alloc (.cells #[.int .u32 (loW n), .int .u32 (hiW n)] T)) := But.of_below ((Below.refl _ _).alloc (Nat.le_refl _) _)
    have hz2 : (w.alloc (.cells #[.int .u32 (loW n), .int .u32 (hiW n)] T)).heap[z]? = some (.cells #[.bool neg0, .slice a0 n0 cap0] 53) := by
      rw [((Below.refl w.heap.size w).alloc (Nat.le_refl _) _).block z hlt]; exact hz
    have := put_any z false neg0 (some ⟨w.heap.size, 0, none⟩) a0 n0 2 cap0 ([loW n, hiW n].take (numW n)) _ hz2 (hm2.take _) ((words_dig n hn).take _) (by rw [hlen]; exact hk) (by rw [hlen]; omega)
    rw [hlen] at this
    refine this.mono ?_
    rintro r w' ⟨rfl, L', e1, e2, e3, e4⟩
    refine ⟨rfl, L', by rw [e1]; exact (natL_words n).2, by omega, ?_, hb.trans e4⟩
    simpa using e3
  clear hz hn hn0
  go_enter Try.func38, Try.ntmps38
  go_wp2_with fail
  refine HW.out.mono ?_
  rintro r w1 ⟨rfl, T', rfl⟩
  go_wp2_with fail
  refine (HP.out T').mono ?_
  rintro r w2 ⟨rfl, hE⟩
  have HE := hid hE
  clear hE
  go_wp2
  go_ret
  exact ⟨rfl, HE.out⟩
set_option maxHeartbeats 400000 in
theorem NewInt_pos (n : Nat) (w : World) (hn : n < 9223372036854775808) :
    Calls Try.prog 27 #[.int .i64 n] w fun r w' => r = .returned (.pointer (some ⟨w.heap.size, 0, none⟩)) ∧ ∃ L', natL L' = n ∧ L'.length ≤ 2 ∧ BigAt w' w.heap.size false L' ∧ Below w.heap.size w w' := by
  have HS : Hid (∀ w', w' = w.alloc (.cells #[.bool false, .slice none 0 0] 53) → Calls Try.prog 38 #[.pointer (some ⟨w.heap.size, 0, none⟩), .int .i64 n] w' fun r w'' => r = .returned (.pointer (some ⟨w.heap.size, 0, none⟩)) ∧ Hid (∃ L', natL L' = n ∧ L'.length ≤ 2 ∧ BigAt w'' w.heap.size false L' ∧ Below w.heap.size w w'')) := by
    rintro w' rfl
    refine (SetInt64_pos w.heap.size false none 0 0 n _ (by show (w.heap.push _)[w.heap.size]? = _; rw [Array.getElem?_push_size]) hn).mono ?_
    rintro r w'' ⟨rfl, L', e1, e2, e3, e4⟩
    refine ⟨rfl, L', e1, e2, e3, ?_⟩
    have h1 : Below w.heap.size w (w.alloc (.cells #[.bool false, .slice none 0 0] 53)) := (Below.refl _ _).alloc (Nat.le_refl _) _
    exact h1.trans (e4.below h1.size (Nat.le_refl _))
  clear hn
  go_enter Try.func27, Try.ntmps27
  go_wp2_with fail
  refine (HS.out _ rfl).mono ?_
  rintro r w1 ⟨rfl, HE⟩
  go_wp2
  go_ret
  exact ⟨rfl, HE.out⟩
end Go.Proofs.Ytfdphegiafccpaa
