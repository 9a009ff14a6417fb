
/- What the document's Unwrap does; the law ClockUnwraps. -/
import Derived.Test.YtfdphegiafccpaaP35
namespace Go.Proofs.Ytfdphegiafccpaa
open Go.RowKit Go.IntWalk

theorem nn_bound (l s k : Int) (hl : -1125899906842624 ≤ l ∧ l ≤ 1125899906842624) (h1 : 0 ≤ s) (h2 : s ≤ 4294967295) (k1 : -2 ≤ k) (k2 : k ≤ 2) : -2251799813685248 ≤ nnV l s k ∧ nnV l s k ≤ 2251799813685248 := by
  unfold nnV
  omega
theorem bst_bound (l s : Int) (hl : -1125899906842624 ≤ l ∧ l ≤ 1125899906842624) (h1 : 0 ≤ s) (h2 : s ≤ 4294967295) (j : Nat) (hj : j ≤ 5) : -2251799813685248 ≤ bst l s j ∧ bst l s j ≤ 2251799813685248 := by
  induction j with
  | zero => show -2251799813685248 ≤ (0 : Int) ∧ (0 : Int) ≤ 2251799813685248; omega
  | succ j ih =>
    cases j with
    | zero => exact nn_bound l s (-2) hl h1 h2 (by omega) (by omega)
    | succ i =>
      show -2251799813685248 ≤ (if pickB l (bst l s (i + 1)) (nnV l s ((i : Int) - 1)) = true then nnV l s ((i : Int) - 1) else bst l s (i + 1)) ∧ (if pickB l (bst l s (i + 1)) (nnV l s ((i : Int) - 1)) = true then nnV l s ((i : Int) - 1) else bst l s (i + 1)) ≤ 2251799813685248
      split
      · exact nn_bound l s _ hl h1 h2 (by omega) (by omega)
      · exact ih (by omega)
theorem bst_take (l s : Int) (i : Nat) (h : pickB l (bst l s (i + 1)) (nnV l s ((i : Int) - 1)) = true) : bst l s (i + 2) = nnV l s ((i : Int) - 1) := by
  show (if pickB l (bst l s (i + 1)) (nnV l s ((i : Int) - 1)) = true then nnV l s ((i : Int) - 1) else bst l s (i + 1)) = _
  rw [if_pos h]
theorem bst_keep (l s : Int) (i : Nat) (h : ¬ pickB l (bst l s (i + 1)) (nnV l s ((i : Int) - 1)) = true) : bst l s (i + 2) = bst l s (i + 1) := by
  show (if pickB l (bst l s (i + 1)) (nnV l s ((i : Int) - 1)) = true then nnV l s ((i : Int) - 1) else bst l s (i + 1)) = _
  rw [if_neg h]
theorem wi_un (l s : Int) (hl : inB l = true) : wiV (unN l s) 1125899906842624 = unV l s ∧ wiE (unN l s) 1125899906842624 = unE l s := by
  have hE : unE l s = if inB (unN l s) = true then 0 else 1 := by unfold unE; rw [hl, Bool.true_and]
  unfold wiV wiE unV
  rw [hE]
  by_cases h : inB (unN l s) = true
  · have := (inB_iff _).1 h
    have hn : ¬ 1125899906842624 < ((unN l s).natAbs : Int) := by omega
    simp only [if_pos h, if_neg hn, if_true, and_self]
  · have := (inB_no _).1 (by simpa using h)
    have hn : 1125899906842624 < ((unN l s).natAbs : Int) := by omega
    simp only [if_neg h, if_pos hn]
    exact ⟨rfl, trivial⟩
set_option maxRecDepth 2000 in
set_option maxHeartbeats 4000000 in
theorem rUnwrap_any (l s : Int) (w : World) (h1 : 0 ≤ s) (h2 : s ≤ 4294967295) :
    Calls Try.prog 15 #[.int .i64 l, .int .u32 s] w fun r w' => r = .returned (.tuple #[.int .i64 (unV l s), .int .i64 (unE l s)]) ∧ Below w.heap.size w w' := by
  by_cases hin : inB l = true
  · obtain ⟨b1, b2⟩ := (inB_iff l).1 hin
    obtain ⟨g1, g2⟩ := wi_un l s hin
    have HBB := hid (bst_bound l s ⟨b1, b2⟩ h1 h2)
    have HNB := hid (fun k => nn_bound l s k ⟨b1, b2⟩ h1 h2)
    have HNR := hid (fun a W h => near_any a l W h (by omega))
    have HNW : Hid (∀ W, Calls Try.prog 27 #[.int .i64 (bst l s 5)] W fun r w' => r = .returned (.pointer (some ⟨W.heap.size, 0, none⟩)) ∧ NumAt w' W.heap.size (unN l s) 2 ∧ Below W.heap.size W w') := fun W => by
      have hb := HBB.out 5 (by omega)
      have := NNewC (bst l s 5) W (by omega) (by omega)
      rw [bst_five l s h1 h2] at this ⊢
      exact this
    have HWI : Hid (∀ p W, NumAt W p (unN l s) 2 → Calls Try.prog 19 #[.pointer (some ⟨p, 0, none⟩), .int .i64 1125899906842624] W fun r w' => r = .returned (.tuple #[.int .i64 (unV l s), .int .i64 (unE l s)]) ∧ Below W.heap.size W w') := fun p W h => by
      have := within_any p 2 (unN l s) 1125899906842624 W h (by omega) (by omega) (by omega)
      rw [g1, g2] at this
      exact this
    have c1 : ¬ l < -1125899906842624 := by omega
    have c2 : ¬ 1125899906842624 < l := by omega
    generalize unV l s = RV at *
    generalize unE l s = RE at *
    clear hin g1 g2
    have HL1 := hid b1
    have HL2 := hid b2
    clear b1 b2
    go_enter Try.func15, Try.ntmps15
    go_wp2
    go_loopw [6, 7, 8] (fun b f k wr => ∃ (j : Nat) (B κ : Int), j ≤ 5 ∧ b = .int .i64 B ∧ f = .bool (j == 0) ∧ k = .int .i64 κ ∧ wr = w ∧ Hid (B = bst l s j) ∧ Hid (κ = (j : Int) - 2)) (fun _ _ k _ => (3 - intOf k).toNat)
    case atStart => exact ⟨0, 0, -2, by omega, rfl, rfl, rfl, rfl, rfl, rfl⟩
    case round =>
      obtain ⟨j, B, κ, hj, rfl, rfl, rfl, hw, HB, HK⟩ := hrel
      rw [hw]
      clear hw
      by_cases h5 : j = 5
      · have hB5 : B = bst l s 5 := by rw [← h5]; exact HB.out
        have hk5 : ¬ κ ≤ 2 := by have := HK.out; omega
        rw [hB5]
        clear hB5
        have hjb : (j == 0) = false := by simp; omega
        generalize bst l s 5 = Z at *
        go_wp2_with fail
        refine (HNW.out _).mono ?_
        rintro e v1 ⟨rfl, n1, hb⟩
        have HN1 := hid n1
        have HB1 := hid hb
        clear n1 hb
        go_wp2_with fail
        refine (HWI.out _ _ HN1.out).mono ?_
        rintro e v2 ⟨rfl, hb⟩
        have HB2 := hid (HB1.out.trans (hb.mono HB1.out.size))
        clear hb
        go_wp2
        go_ret2
        exact ⟨rfl, HB2.out⟩
      · have hk2 : κ ≤ 2 := by have := HK.out; omega
        have hk3 : -2 ≤ κ := by have := HK.out; omega
        obtain ⟨hNb1, hNb2⟩ := HNB.out κ hk3 hk2
        obtain ⟨h, hh⟩ : ∃ t, l / 4294967296 = t := ⟨_, rfl⟩
        have hhb : -262144 ≤ h ∧ h ≤ 262144 := by have := HL1.out; have := HL2.out; omega
        obtain ⟨H1, e1⟩ : ∃ t, h + κ = t := ⟨_, rfl⟩
        obtain ⟨H2, e2⟩ : ∃ t, H1 * 4294967296 = t := ⟨_, rfl⟩
        obtain ⟨N, e3⟩ : ∃ t, H2 + s = t := ⟨_, rfl⟩
        have HN : Hid (N = nnV l s κ) := hid (by unfold nnV; rw [hh, e1, e2, e3])
        rw [← HN.out] at hNb1 hNb2
        have w1 : wrap64 H1 = H1 := wrap64_in _ (by omega)
        have w2 : wrap64 H2 = H2 := wrap64_in _ (by omega)
        have w3 : wrap64 N = N := wrap64_in _ (by omega)
        obtain ⟨K2, e4⟩ : ∃ t, κ + 1 = t := ⟨_, rfl⟩
        have w4 : wrap64 K2 = K2 := wrap64_in _ (by omega)
        have HK2 : Hid (K2 = ((j + 1 : Nat) : Int) - 2) := hid (by have := HK.out; omega)
        have HMS : Hid ((3 - K2).toNat < (3 - κ).toNat) := hid (by omega)
        by_cases h0 : j = 0
        · subst h0
          have HB2 : Hid (N = bst l s 1) := hid (by rw [HN.out]; have := HK.out; rw [show κ = -2 by omega]; rfl)
          clear hhb hNb1 hNb2
          go_wp2
          go_roundw
          case rel => exact ⟨1, N, K2, by omega, rfl, rfl, rfl, trivial, HB2, HK2⟩
          case measure => simpa [intOf] using HMS.out
        · obtain ⟨i, rfl⟩ : ∃ i, j = i + 1 := ⟨j - 1, by omega⟩
          have hjb : (i + 1 == 0) = false := by simp
          have hBb := HBB.out (i + 1) hj
          rw [← HB.out] at hBb
          have HC1 := hid (fun W => HNR.out N W ⟨hNb1, hNb2⟩)
          have HC2 := hid (fun W => HNR.out B W hBb)
          have hκ : κ = (i : Int) - 1 := by have := HK.out; omega
          have HPK : Hid (pickB l (bst l s (i + 1)) (nnV l s ((i : Int) - 1)) = true ↔ (nrV N l < nrV B l ∨ (nrV N l = nrV B l ∧ B < N))) := hid (by rw [pick_is, ← hκ, ← HN.out, ← HB.out])
          have HTK : Hid (pickB l (bst l s (i + 1)) (nnV l s ((i : Int) - 1)) = true → N = bst l s (i + 2)) := hid (fun hp => by rw [bst_take l s i hp, HN.out, hκ])
          have HKP : Hid (¬ pickB l (bst l s (i + 1)) (nnV l s ((i : Int) - 1)) = true → B = bst l s (i + 2)) := hid (fun hp => by rw [bst_keep l s i hp, HB.out])
          generalize nrV N l = D1 at *
          generalize nrV B l = D2 at *
          clear hhb hNb1 hNb2 hBb hκ
          by_cases hd : D1 < D2
          · have HB2 := hid (HTK.out (HPK.out.2 (.inl hd)))
            go_wp2_with fail
            refine (HC1.out _).mono ?_
            rintro e ww ⟨rfl, hw⟩
            rw [hw]
            clear hw
            go_wp2_with fail
            refine (HC2.out _).mono ?_
            rintro e ww ⟨rfl, hw⟩
            rw [hw]
            clear hw
            go_wp2
            go_roundw
            case rel => exact ⟨i + 2, N, K2, by omega, rfl, rfl, rfl, trivial, HB2, HK2⟩
            case measure => simpa [intOf] using HMS.out
          · by_cases he : D1 = D2
            · subst he
              by_cases hg : B < N
              · have HB2 := hid (HTK.out (HPK.out.2 (.inr ⟨rfl, hg⟩)))
                clear hd
                go_wp2_with fail
                refine (HC1.out _).mono ?_
                rintro e ww ⟨rfl, hw⟩
                rw [hw]
                clear hw
                go_wp2_with fail
                refine (HC2.out _).mono ?_
                rintro e ww ⟨rfl, hw⟩
                rw [hw]
                clear hw
                go_wp2_with fail
                refine (HC1.out _).mono ?_
                rintro e ww ⟨rfl, hw⟩
                rw [hw]
                clear hw
                go_wp2_with fail
                refine (HC2.out _).mono ?_
                rintro e ww ⟨rfl, hw⟩
                rw [hw]
                clear hw
                go_wp2
                go_roundw
                case rel => exact ⟨i + 2, N, K2, by omega, rfl, rfl, rfl, trivial, HB2, HK2⟩
                case measure => simpa [intOf] using HMS.out
              · have HB2 := hid (HKP.out (fun hp => by have := HPK.out.1 hp; omega))
                clear hd
                go_wp2_with fail
                refine (HC1.out _).mono ?_
                rintro e ww ⟨rfl, hw⟩
                rw [hw]
                clear hw
                go_wp2_with fail
                refine (HC2.out _).mono ?_
                rintro e ww ⟨rfl, hw⟩
                rw [hw]
                clear hw
                go_wp2_with fail
                refine (HC1.out _).mono ?_
                rintro e ww ⟨rfl, hw⟩
                rw [hw]
                clear hw
                go_wp2_with fail
                refine (HC2.out _).mono ?_
                rintro e ww ⟨rfl, hw⟩
                rw [hw]
                clear hw
                go_wp2
                go_roundw
                case rel => exact ⟨i + 2, B, K2, by omega, rfl, by simp, rfl, trivial, HB2, HK2⟩
                case measure => simpa [intOf] using HMS.out
            · have HB2 := hid (HKP.out (fun hp => by have := HPK.out.1 hp; omega))
              have he2 : (D1 == D2) = false := by simpa using he
              go_wp2_with fail
              refine (HC1.out _).mono ?_
              rintro e ww ⟨rfl, hw⟩
              rw [hw]
              clear hw
              go_wp2_with fail
              refine (HC2.out _).mono ?_
              rintro e ww ⟨rfl, hw⟩
              rw [hw]
              clear hw
              go_wp2_with fail
              refine (HC1.out _).mono ?_
              rintro e ww ⟨rfl, hw⟩
              rw [hw]
              clear hw
              go_wp2_with fail
              refine (HC2.out _).mono ?_
              rintro e ww ⟨rfl, hw⟩
              rw [hw]
              clear hw
              go_wp2
              go_roundw
              case rel => exact ⟨i + 2, B, K2, by omega, rfl, by simp, rfl, trivial, HB2, HK2⟩
              case measure => simpa [intOf] using HMS.out
  · have hin' : inB l = false := by simpa using hin
    have e1 : unE l s = 1 := by unfold unE; rw [hin']; rfl
    have e2 : unV l s = 0 := by unfold unV; rw [if_neg (by omega)]
    rw [e1, e2]
    have hno := (inB_no l).1 hin'
    clear e1 e2 hin hin'
    by_cases hlo : l < -1125899906842624
    · clear hno
      go_enter Try.func15, Try.ntmps15
      go_wp2
      go_ret2
      exact ⟨rfl, Below.refl _ _⟩
    · have hhi : 1125899906842624 < l := by omega
      clear hno
      go_enter Try.func15, Try.ntmps15
      go_wp2
      go_ret2
      exact ⟨rfl, Below.refl _ _⟩
set_option maxHeartbeats 2000000 in
theorem unwraps_walk (l : Int) (s : Nat) (w : World) (_hl : -9223372036854775808 ≤ l ∧ l ≤ 9223372036854775807) (hs : s < 4294967296) :
    Calls Try.prog 4 #[.int .i64 l, .int .u32 s] w fun r w' => r = .returned (.bool true) ∧ Below w.heap.size w w' := by
  have HA := hid (fun W => awake13_any W)
  have H1 := hid (fun W => Unwrap_any l s W)
  have H2 := hid (fun W => rUnwrap_any l s W (by omega) (by omega))
  generalize unV l s = V at *
  generalize unE l s = E at *
  clear _hl hs
  go_enter Try.func4, Try.ntmps4
  go_wp2_with fail
  refine (H1.out _).mono ?_
  rintro e ww ⟨rfl, hw⟩
  rw [hw]
  clear hw
  go_wp2_with fail
  refine (H2.out _).mono ?_
  rintro e v1 ⟨rfl, hb⟩
  have HB1 := hid hb
  clear hb
  go_wp2_with fail
  refine (HA.out _).mono ?_
  rintro e v2 ⟨rfl, hb⟩
  have HB2 := hid (HB1.out.trans (hb.mono HB1.out.size))
  clear hb
  go_wp2
  go_ret
  exact ⟨rfl, HB2.out⟩
end Go.Proofs.Ytfdphegiafccpaa
