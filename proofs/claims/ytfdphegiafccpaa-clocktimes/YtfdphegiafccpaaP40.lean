
/- What the document's Int64 does. -/
import Derived.Test.YtfdphegiafccpaaP34
namespace Go.Proofs.Ytfdphegiafccpaa
open Go.RowKit Go.IntWalk

set_option maxHeartbeats 1000000 in
theorem NInt64 (x : Nat) (v : Int) (bd : Nat) (w : World) (hx : NumAt w x v bd) (h1 : -9223372036854775808 ≤ v) (h2 : v ≤ 9223372036854775807) :
    Calls Try.prog 31 #[.pointer (some ⟨x, 0, none⟩)] w fun r w' => r = .returned (.int .i64 v) ∧ w' = w := by
  obtain ⟨neg, L, hv, hL, hB⟩ := hx
  obtain ⟨a, cap, ho, hcap, hm, hd, hc, hn⟩ := id hB
  obtain ⟨c0, c1, hf, hlt⟩ := int_cells ho
  have hnv : natL L = v.natAbs := by rw [← hv]; unfold intL; cases neg <;> simp
  have hlen : L.length ≤ 2 := len_small L 2 hc (by rw [hnv]; simp only [Nat.reducePow]; omega)
  have HU := hid (Uint64_any x neg L w hB hlen)
  obtain ⟨n, hnn⟩ : ∃ n, Hid (natL L = n) := ⟨_, rfl⟩
  rw [hnn.out] at HU hnv
  have hv2 : v = if neg = true then -(n : Int) else (n : Int) := by rw [← hv]; unfold intL; rw [hnn.out]
  cases neg
  · simp only [Bool.false_eq_true, if_false] at hv2
    subst hv2
    have hw : IntKind.i64.wrap (n : Int) = (n : Int) := by rw [IntWalk.i64_in _ (by omega)]
    clear h1 h2 hnv hm hd hc hn ho hcap hL hlen hv hB
    go_enter Try.func31, Try.ntmps31
    go_wp2_with fail
    refine HU.out.mono ?_
    rintro r w1 ⟨rfl, rfl⟩
    go_wp2
    go_ret
    exact ⟨by first | rfl | simp, rfl⟩
  · simp only [if_true] at hv2
    subst hv2
    obtain ⟨V, hV⟩ : ∃ V : Int, Hid (IntKind.u64.wrap (-(n : Int)) = V) := ⟨_, rfl⟩
    have hw1 : IntKind.u64.wrap (-(n : Int)) = V := hV.out
    have hw : IntKind.i64.wrap V = -(n : Int) := by
      rw [← hw1, IntKind.wrap_u64, IntKind.wrap_i64]
      omega
    clear h1 h2 hnv hm hd hc hn ho hcap hL hlen hv hB
    go_enter Try.func31, Try.ntmps31
    go_wp2_with fail
    refine HU.out.mono ?_
    rintro r w1 ⟨rfl, rfl⟩
    go_wp2
    go_ret
    exact ⟨by first | rfl | simp, rfl⟩
end Go.Proofs.Ytfdphegiafccpaa
