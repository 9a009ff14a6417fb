
/- The law ClockWraps. -/
import Derived.Test.YtfdphegiafccpabP15
import Derived.Test.YtfdphegiafccpabP6
namespace Go.Proofs.Ytfdphegiafccpab
open Go.RowKit Go.IntWalk

theorem un_next (l s : Int) (h1 : -2147483648 < s) (h2 : s ≤ 2147483647) : unN l ((l + s) % 4294967296) = l + s := by
  unfold unN stepV
  split <;> omega
theorem un_good (l s : Int) (h1 : -2147483648 < s) (h2 : s ≤ 2147483647) (h3 : inB l = true) (h4 : inB (l + s) = true) : unE l ((l + s) % 4294967296) = 0 ∧ unV l ((l + s) % 4294967296) = l + s := by
  have e : unE l ((l + s) % 4294967296) = 0 := by unfold unE; rw [un_next l s h1 h2, h3, h4]; rfl
  refine ⟨e, ?_⟩
  unfold unV
  rw [if_pos e, un_next l s h1 h2]
/-- The step that a number stands for. -/
def wstep (x : Int) : Int := if x = -2147483648 then 0 else x
set_option maxHeartbeats 4000000 in
theorem wraps_walk (f : Int) (sa : Option Addr) (n cap : Nat) (xs : List Int) (w : World) (_hf : -9223372036854775808 ≤ f ∧ f ≤ 9223372036854775807) (hu : I32At w sa n xs) (hn : n ≤ 35184372087808) :
    Calls Try.prog 3 #[.int .i64 f, .slice sa n cap] w fun r w' => r = .returned (.bool true) ∧ Below w.heap.size w w' := by
  have HA := hid (fun W => awake13_any W)
  have HU := hid hu
  clear _hf hu
  go_enter Try.func3, Try.ntmps3
  go_wp2_with fail
  all_goals try (refine (HA.out _).mono ?_; rintro e w3 ⟨rfl, hb⟩; have HB3 := hid hb; clear hb; go_wp2; go_ret; exact ⟨rfl, HB3.out⟩)
  go_loopw [5, 6, 27] (fun a c i wr => ∃ (k : Nat) (T : Int), a = .int .i64 T ∧ c = .int .i64 T ∧ i = .int .i64 k ∧ k ≤ n ∧ Hid (f - 2147483648 * (k : Int) ≤ T ∧ T ≤ f + 2147483648 * (k : Int)) ∧ wr = w) (fun _ _ i _ => n - (intOf i).toNat)
  case atStart => exact ⟨0, f, rfl, rfl, rfl, Nat.zero_le _, hid (by omega), rfl⟩
  case round =>
    obtain ⟨k, T, rfl, rfl, rfl, hk, HB, hw⟩ := hrel
    rw [hw]
    clear hw
    by_cases hlt : k < n
    · obtain ⟨b, off, rfl, hbb, hcl⟩ := HU.out.2.2 (by omega)
      have hck := hcl k hlt
      have hmem : xs.getD k 0 ∈ xs := by
        have hi2 : k < xs.length := by rw [HU.out.1]; exact hlt
        rw [List.getD_eq_getElem?_getD, List.getElem?_eq_getElem hi2]
        exact List.getElem_mem hi2
      obtain ⟨x1, x2⟩ := HU.out.2.1 _ hmem
      obtain ⟨x, hx⟩ : ∃ x, xs.getD k 0 = x := ⟨_, rfl⟩
      rw [hx] at hck x1 x2
      obtain ⟨t1, t2⟩ := HB.out
      have hltI : (k : Int) < (n : Int) := by omega
      clear hmem hx hcl
      by_cases hm : x = -2147483648
      · subst hm
        have hw1 : wrap64 (T + 0) = T + 0 := wrap64_in _ (by omega)
        obtain ⟨T2, hT2⟩ : ∃ t, T + 0 = t := ⟨_, rfl⟩
        obtain ⟨X, hX⟩ : ∃ t, (T + 0) % 4294967296 = t := ⟨_, rfl⟩
        have HUN : Hid (∀ W, Calls Try.prog 7 #[.int .i64 T, .int .u32 X] W fun r w' => r = .returned (.tuple #[.int .i64 T2, .int .i64 0]) ∧ w' = W) := fun W => by
          obtain ⟨g1, g2⟩ := un_good T 0 (by omega) (by omega) ((inB_iff _).2 (by omega)) ((inB_iff _).2 (by omega))
          have := Unwrap_any T ((T + 0) % 4294967296) W
          rw [g1, g2, hX, hT2] at this
          exact this
        rw [hT2] at hw1 hX
        have HB2 : Hid (f - 2147483648 * ((k + 1 : Nat) : Int) ≤ T2 ∧ T2 ≤ f + 2147483648 * ((k + 1 : Nat) : Int)) := hid (by omega)
        go_wp2_with fail
        refine (HUN.out _).mono ?_
        rintro e w1 ⟨rfl, hw⟩
        rw [hw]
        clear hw
        go_wp2
        go_roundw
        case rel => exact ⟨k + 1, T2, rfl, rfl, by go_num, by omega, HB2, trivial⟩
        case measure => simp [intOf]; omega
      · have hm2 : (x == -2147483648) = false := by simpa using hm
        have hw1 : wrap64 (T + x) = T + x := wrap64_in _ (by omega)
        obtain ⟨T2, hT2⟩ : ∃ t, T + x = t := ⟨_, rfl⟩
        obtain ⟨X, hX⟩ : ∃ t, (T + x) % 4294967296 = t := ⟨_, rfl⟩
        have HUN : Hid (∀ W, Calls Try.prog 7 #[.int .i64 T, .int .u32 X] W fun r w' => r = .returned (.tuple #[.int .i64 T2, .int .i64 0]) ∧ w' = W) := fun W => by
          obtain ⟨g1, g2⟩ := un_good T x (by omega) (by omega) ((inB_iff _).2 (by omega)) ((inB_iff _).2 (by omega))
          have := Unwrap_any T ((T + x) % 4294967296) W
          rw [g1, g2, hX, hT2] at this
          exact this
        rw [hT2] at hw1 hX
        have HB2 : Hid (f - 2147483648 * ((k + 1 : Nat) : Int) ≤ T2 ∧ T2 ≤ f + 2147483648 * ((k + 1 : Nat) : Int)) := hid (by omega)
        go_wp2_with fail
        refine (HUN.out _).mono ?_
        rintro e w1 ⟨rfl, hw⟩
        rw [hw]
        clear hw
        go_wp2
        go_roundw
        case rel => exact ⟨k + 1, T2, rfl, rfl, by go_num, by omega, HB2, trivial⟩
        case measure => simp [intOf]; omega
    · have hkn : k = n := by omega
      subst hkn
      go_wp2_with fail
      refine (HA.out _).mono ?_
      rintro e w3 ⟨rfl, hb⟩
      have HB3 := hid hb
      clear hb
      go_wp2
      go_ret
      exact ⟨rfl, HB3.out⟩
end Go.Proofs.Ytfdphegiafccpab
