
/- What clock's checkPairs does. -/
import Derived.Test.YtfdphegiafccpabP18
namespace Go.Proofs.Ytfdphegiafccpab
open Go.RowKit Go.IntWalk

/-- Pairs that a clock may go through. -/
def PGood (C T : Nat → Int) (n : Nat) : Prop := (2 ≤ n ∧ n ≤ 1024) ∧ (∀ i, i < n → inB (C i) = true ∧ inB (T i) = true) ∧ Ris C T n
def CpOk (C T : Nat → Int) (n : Nat) (r : Ending) : Prop := ∃ E : Int, r = .returned (.int .i64 E) ∧ (E = 0 ↔ PGood C T n)
theorem cp_bad {C T : Nat → Int} {n : Nat} (E : Int) (hE : E ≠ 0) (h : ¬ PGood C T n) : CpOk C T n (.returned (.int .i64 E)) := ⟨E, rfl, fun c => absurd c hE, fun c => absurd c h⟩
set_option maxRecDepth 2000 in
set_option maxHeartbeats 4000000 in
theorem checkPairs_any (sa : Option Addr) (n cap : Nat) (C T : Nat → Int) (w : World) (hp : PrAt w sa n C T) (hn : n ≤ 17592186043904) :
    Calls Try.prog 15 #[.slice sa n cap] w fun r w' => CpOk C T n r ∧ Below w.heap.size w w' := by
  by_cases hlong : 1024 < n
  · have HF : Hid (CpOk C T n (.returned (.int .i64 2))) := hid (cp_bad 2 (by decide) (fun h => by have := h.1; omega))
    have hl : (1024 : Int) < (n : Int) := by omega
    clear hp
    go_enter Try.func15, Try.ntmps15
    go_wp2
    go_ret
    exact ⟨HF.out, Below.refl _ _⟩
  · have HP := hid hp
    have hl : ¬ (1024 : Int) < (n : Int) := by omega
    have HI := hid (fun x W => isCount_any x W)
    have HT := hid (fun x W => isTime_any x W)
    clear hp
    go_enter Try.func15, Try.ntmps15
    go_wp2
    go_loopw [10] (fun iv wr => ∃ (k : Nat), iv = .int .i64 k ∧ k ≤ n ∧ Hid (∀ j, j < k → inB (C j) = true ∧ inB (T j) = true) ∧ Hid (Below w.heap.size w wr)) (fun iv _ => n - (intOf iv).toNat)
    case atStart => exact ⟨0, rfl, Nat.zero_le _, fun j hj => absurd hj (Nat.not_lt_zero _), Below.refl _ _⟩
    case round =>
      obtain ⟨k, rfl, hk, HA, HB⟩ := hrel
      by_cases hlt : k < n
      · obtain ⟨b, off, rfl, hbl, hcl⟩ := HP.out.2 (by omega)
        obtain ⟨a1, a2⟩ := hcl k hlt
        have a3 : wr.cell? ⟨b, off + k * 2, none⟩ = some (.int .i64 (C k)) := by rw [HB.out.cell (p := ⟨b, off + k * 2, none⟩) hbl]; exact a1
        have a4 : wr.cell? ⟨b, off + k * 2 + 1, none⟩ = some (.int .i64 (T k)) := by rw [HB.out.cell (p := ⟨b, off + k * 2 + 1, none⟩) hbl]; exact a2
        have hkI : (k : Int) < (n : Int) := by omega
        obtain ⟨x, hx⟩ : ∃ t, C k = t := ⟨_, rfl⟩
        obtain ⟨y, hy⟩ : ∃ t, T k = t := ⟨_, rfl⟩
        rw [hx] at a3
        rw [hy] at a4
        have HXY : Hid (x = C k ∧ y = T k) := hid ⟨hx.symm, hy.symm⟩
        have HB2 : Hid (Below w.heap.size w (wr.alloc (.cells #[.int .i64 x, .int .i64 y] 36))) := hid (HB.out.alloc HB.out.size _)
        clear a1 a2 hcl hx hy
        obtain ⟨p, hp⟩ : ∃ t, inB x = t := ⟨_, rfl⟩
        obtain ⟨q, hq⟩ : ∃ t, inB y = t := ⟨_, rfl⟩
        have HI1 : Hid (∀ W, Calls Try.prog 13 #[.int .i64 x] W fun r w' => r = .returned (.bool p) ∧ w' = W) := hid (fun W => by rw [← hp]; exact HI.out x W)
        have HT1 : Hid (∀ W, Calls Try.prog 20 #[.int .i64 y] W fun r w' => r = .returned (.bool q) ∧ w' = W) := hid (fun W => by rw [← hq]; exact HT.out y W)
        have HPQ : Hid (inB (C k) = p ∧ inB (T k) = q) := hid ⟨by rw [← HXY.out.1]; exact hp, by rw [← HXY.out.2]; exact hq⟩
        clear hp hq
        cases p
        · have HF : Hid (CpOk C T n (.returned (.int .i64 1))) := hid (cp_bad 1 (by decide) (fun h => by have := (h.2.1 k hlt).1; rw [HPQ.out.1] at this; cases this))
          go_wp2_with fail
          refine (HI1.out _).mono ?_
          rintro e v1 ⟨rfl, hw⟩
          rw [hw]
          clear hw
          go_wp2
          go_ret
          exact ⟨HF.out, HB2.out⟩
        · cases q
          · have HF : Hid (CpOk C T n (.returned (.int .i64 1))) := hid (cp_bad 1 (by decide) (fun h => by have := (h.2.1 k hlt).2; rw [HPQ.out.2] at this; cases this))
            go_wp2_with fail
            refine (HI1.out _).mono ?_
            rintro e v1 ⟨rfl, hw⟩
            rw [hw]
            clear hw
            go_wp2_with fail
            refine (HT1.out _).mono ?_
            rintro e v1 ⟨rfl, hw⟩
            rw [hw]
            clear hw
            go_wp2
            go_ret
            exact ⟨HF.out, HB2.out⟩
          · have HA2 : Hid (∀ j, j < k + 1 → inB (C j) = true ∧ inB (T j) = true) := hid (fun j hj => by
              by_cases hjk : j = k
              · subst hjk
                exact HPQ.out
              · exact HA.out j (by omega))
            go_wp2_with fail
            refine (HI1.out _).mono ?_
            rintro e v1 ⟨rfl, hw⟩
            rw [hw]
            clear hw
            go_wp2_with fail
            refine (HT1.out _).mono ?_
            rintro e v1 ⟨rfl, hw⟩
            rw [hw]
            clear hw
            go_wp2
            go_roundw
            case rel => exact ⟨k + 1, by go_num, by omega, HA2, HB2⟩
            case measure => simp [intOf]; omega
      · have hkn : k = n := by omega
        subst hkn
        by_cases h2 : k < 2
        · have h2I : (k : Int) < 2 := by omega
          have HF : Hid (CpOk C T k (.returned (.int .i64 131))) := hid (cp_bad 131 (by decide) (fun h => by have := h.1; omega))
          go_wp2
          go_ret
          exact ⟨HF.out, HB.out⟩
        · have h2I : ¬ (k : Int) < 2 := by omega
          obtain ⟨b, off, rfl, hbl, hcl⟩ := HP.out.2 (by omega)
          have HR : Hid (Calls Try.prog 23 #[.slice (some ⟨b, off, none⟩) k cap] wr fun r w' => RiOk C T k r ∧ ∃ m, w' = wr.drewN m) := hid (rising_any b off k cap C T wr (fun i hi => by
            rw [HB.out.cell (p := ⟨b, off + i * 2, none⟩) hbl, HB.out.cell (p := ⟨b, off + i * 2 + 1, none⟩) hbl]
            exact hcl i hi) (by omega) (by omega))
          clear hcl
          go_wp2_with fail
          refine HR.out.mono ?_
          rintro e v1 ⟨⟨R, rfl, hR⟩, m, rfl⟩
          have HRR := hid hR
          clear hR
          cases R
          · have HF : Hid (CpOk C T k (.returned (.int .i64 131))) := hid (cp_bad 131 (by decide) (fun h => by have := HRR.out.2 h.2.2; cases this))
            go_wp2
            go_ret
            exact ⟨HF.out, below_drewN HB.out m⟩
          · have HF : Hid (CpOk C T k (.returned (.int .i64 0))) := hid ⟨0, rfl, fun _ => ⟨by omega, HA.out, HRR.out.1 rfl⟩, fun _ => rfl⟩
            go_wp2
            go_ret
            exact ⟨HF.out, below_drewN HB.out m⟩
end Go.Proofs.Ytfdphegiafccpab
