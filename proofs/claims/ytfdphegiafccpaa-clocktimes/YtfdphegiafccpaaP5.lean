
/- What the document's whole numbers tell: Sign, Uint64. -/
import Derived.Test.YtfdphegiafccpaaP4
namespace Go.Proofs.Ytfdphegiafccpaa
open Go.RowKit Go.IntWalk

theorem len_zero_iff (L : List Nat) (hc : CanL L) : L.length = 0 ↔ natL L = 0 := by rw [natL_zero L hc, List.length_eq_zero_iff]
theorem natL_two (L : List Nat) (hL : L.length ≤ 2) : natL L = L.getD 0 0 + 4294967296 * L.getD 1 0 := by
  match L, hL with
  | [], _ => rfl
  | [d], _ => show d + 4294967296 * 0 = d + 4294967296 * 0; rfl
  | [d, e], _ => show d + 4294967296 * (e + 4294967296 * 0) = d + 4294967296 * e; omega
  | _ :: _ :: _ :: _, h => simp at h
theorem or_words (d e : Nat) (hd : d < 4294967296) (he : e < 4294967296) : bits .or .u64 (d : Int) (IntKind.u64.wrap ((e : Int) * 4294967296)) = ((d + 4294967296 * e : Nat) : Int) := by
  have hw : IntKind.u64.wrap ((e : Int) * 4294967296) = ((4294967296 * e : Nat) : Int) := by rw [IntKind.wrap_u64]; omega
  rw [hw, u64_or_nat d (4294967296 * e) (by omega) (by omega)]
  congr 1
  rw [Nat.or_comm, Nat.add_comm]
  have := Nat.two_pow_add_eq_or_of_lt (i := 32) (b := d) (by simpa using hd) e
  simp only [Nat.reducePow] at this
  omega
set_option maxHeartbeats 400000 in
theorem Uint64_any (x : Nat) (neg : Bool) (L : List Nat) (w : World) (h : BigAt w x neg L) (hL : L.length ≤ 2) :
    Calls Try.prog 40 #[.pointer (some ⟨x, 0, none⟩)] w fun r w' => r = .returned (.int .u64 (natL L)) ∧ w' = w := by
  obtain ⟨a, cap, ho, hcap, hm, hd, hc, hn⟩ := h
  obtain ⟨c0, c1, hf, hlt⟩ := int_cells ho
  rw [natL_two L hL]
  have h0 := hd.get 0
  have h1 := hd.get 1
  have hor := or_words _ _ h0 h1
  rcases (show L.length = 0 ∨ L.length = 1 ∨ L.length = 2 by omega) with hl | hl | hl
  · have e : L = [] := List.length_eq_zero_iff.1 hl
    subst e
    clear hm hd hc hn ho hcap hf hor h0 h1 hL hl
    go_enter Try.func40, Try.ntmps40
    go_wp2
    go_ret
    exact ⟨rfl, rfl⟩
  · obtain ⟨b, off, rfl, hb, m0'⟩ := hm 0 (by omega)
    have m0 : w.cell? ⟨b, off, none⟩ = some (.int .u32 (L.getD 0 0)) := m0'
    clear m0'
    have e1 : L.getD 1 0 = 0 := by simp [List.getD, hl]
    rw [hl] at c1
    rw [e1]
    obtain ⟨d, hdd⟩ : ∃ d, Hid (L.getD 0 0 = d) := ⟨_, rfl⟩
    rw [hdd.out] at m0 h0 ⊢
    have hw0 : IntKind.u64.wrap (d : Int) = (d : Int) := by rw [IntKind.wrap_u64]; omega
    clear hm hd hc hn ho hcap hf hor h0 h1 hL hl e1
    go_enter Try.func40, Try.ntmps40
    go_wp2
    go_ret
    exact ⟨ret_int (by omega), rfl⟩
  · obtain ⟨b, off, rfl, hb, m0'⟩ := hm 0 (by omega)
    have m0 : w.cell? ⟨b, off, none⟩ = some (.int .u32 (L.getD 0 0)) := m0'
    clear m0'
    obtain ⟨b', off', e', hb', m1⟩ := hm 1 (by omega)
    cases e'
    rw [hl] at c1
    obtain ⟨d, hdd⟩ : ∃ d, Hid (L.getD 0 0 = d) := ⟨_, rfl⟩
    obtain ⟨e, hee⟩ : ∃ e, Hid (L.getD 1 0 = e) := ⟨_, rfl⟩
    rw [hdd.out] at m0 hor h0 ⊢
    rw [hee.out] at m1 hor h1 ⊢
    have hw0 : IntKind.u64.wrap (d : Int) = (d : Int) := by rw [IntKind.wrap_u64]; omega
    have hw1 : IntKind.u64.wrap (e : Int) = (e : Int) := by rw [IntKind.wrap_u64]; omega
    obtain ⟨z, hz⟩ : ∃ z, Hid (d + 4294967296 * e = z) := ⟨_, rfl⟩
    rw [hz.out] at hor ⊢
    clear hm hd hc hn ho hcap hf h0 h1 hL hl
    go_enter Try.func40, Try.ntmps40
    go_wp2
    go_ret
    exact ⟨by first | rfl | exact ret_int hor, rfl⟩
end Go.Proofs.Ytfdphegiafccpaa
