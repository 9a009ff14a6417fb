
/- What the document's whole numbers tell: Sign, Uint64. -/
import Derived.Test.YteidllapjokhlaaDoorBigCut
namespace Go.Proofs.YteidllapjokhlaaDoor
open Go.RowKit Go.IntWalk

theorem len_zero_iff (L : List Nat) (hc : CanL L) : L.length = 0 ↔ natL L = 0 := by rw [natL_zero L hc, List.length_eq_zero_iff]
set_option maxHeartbeats 400000 in
theorem Sign_any (x : Nat) (neg : Bool) (L : List Nat) (w : World) (h : BigAt w x neg L) :
    Calls Tryd.prog 39 #[.pointer (some ⟨x, 0, none⟩)] w fun r w' => r = .returned (.int .i64 (if natL L = 0 then 0 else if neg = true then -1 else 1)) ∧ w' = w := by
  obtain ⟨a, cap, ho, hcap, hm, hd, hc, hn⟩ := h
  obtain ⟨c0, c1, hf, hlt⟩ := int_cells ho
  have hz := len_zero_iff L hc
  obtain ⟨n, hnl⟩ : ∃ n, Hid (L.length = n) := ⟨_, rfl⟩
  rw [hnl.out] at c1 hz
  by_cases h0 : natL L = 0
  · rw [if_pos h0]
    have hn0 := hz.2 h0
    subst hn0
    clear hz h0 hm hd hc hn ho hcap hf
    go_enter Tryd.func39, Tryd.ntmps39
    go_wp2
    go_ret
    exact ⟨rfl, rfl⟩
  · rw [if_neg h0]
    have hn0 : ((n : Int) == 0) = false := by
      have : n ≠ 0 := fun c => h0 (hz.1 c)
      simpa using this
    clear hz h0 hm hd hc hn ho hcap hf
    cases neg
    · go_enter Tryd.func39, Tryd.ntmps39
      go_wp2
      go_ret
      exact ⟨rfl, rfl⟩
    · go_enter Tryd.func39, Tryd.ntmps39
      go_wp2
      go_ret
      exact ⟨rfl, rfl⟩
theorem natL_two (L : List Nat) (hL : L.length ≤ 2) : natL L = L.getD 0 0 + 4294967296 * L.getD 1 0 := by
  match L, hL with
  | [], _ => rfl
  | [d], _ => show d + 4294967296 * 0 = d + 4294967296 * 0; rfl
  | [d, e], _ => show d + 4294967296 * (e + 4294967296 * 0) = d + 4294967296 * e; omega
  | _ :: _ :: _ :: _, h => simp at h
theorem or_words (d e : Nat) (hd : d < 4294967296) (he : e < 4294967296) : bits .or .u64 (d : Int) (IntKind.u64.wrap ((e : Int) * 4294967296)) = ((d + 4294967296 * e : Nat) : Int) := by
  have hw : IntKind.u64.wrap ((e : Int) * 4294967296) = ((4294967296 * e : Nat) : Int) := by rw [IntKind.wrap_u64]; omega
  rw [hw, u64_or_nat d (4294967296 * e) (by omega) (by omega)]
  congr 1
  rw [Nat.or_comm, Nat.add_comm]
  have := Nat.two_pow_add_eq_or_of_lt (i := 32) (b := d) (by simpa using hd) e
  simp only [Nat.reducePow] at this
  omega
end Go.Proofs.YteidllapjokhlaaDoor
