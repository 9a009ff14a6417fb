
/- What clock's inLowestTerms does: Euclid's steps. -/
import Derived.Test.YtfdphegiafccpabP16
namespace Go.Proofs.Ytfdphegiafccpab
open Go.RowKit Go.IntWalk

theorem ck_tmod (a b c : Nat) (h : a % b = c) : (a : Int).tmod (b : Int) = (c : Int) := by rw [← h]; exact (Int.ofNat_tmod a b).symm
theorem ck_tdiv (a b c : Nat) (h : a / b = c) : (a : Int).tdiv (b : Int) = (c : Int) := by rw [← h]; exact (Int.ofNat_tdiv a b).symm
set_option maxHeartbeats 4000000 in
theorem low_any (x y : Nat) (w : World) (hx0 : 0 < x) (hx : x ≤ 9223372036854775807) (hy : y ≤ 9223372036854775807) :
    Calls Try.prog 16 #[.int .i64 x, .int .i64 y] w fun r w' => r = .returned (.agg #[.int .i64 0, .int .i64 ((x / Nat.gcd x y : Nat) : Int), .int .i64 ((y / Nat.gcd x y : Nat) : Int)]) ∧ Below w.heap.size w w' := by
  have HB0 : Hid (Below w.heap.size w (w.alloc (CBox 0 0 0))) := (Below.refl _ _).alloc (Nat.le_refl _) _
  have g1 := cnew w (CBox 0 0 0)
  obtain ⟨W0, hW0⟩ : ∃ V, Hid (w.alloc (CBox 0 0 0) = V) := ⟨_, rfl⟩
  rw [hW0.out] at HB0 g1
  obtain ⟨c0, c1, c2, hf⟩ := ccells_of (show W0.heap[w.heap.size]? = some (.cells #[.int .i64 0, .int .i64 0, .int .i64 0] 31) from g1)
  obtain ⟨G, hG⟩ : ∃ t, Nat.gcd x y = t := ⟨_, rfl⟩
  have hG0 : 0 < G := by rw [← hG]; exact Nat.gcd_pos_of_pos_left _ hx0
  unfold CBox at hW0
  have hW0' := hW0.out
  rw [hG]
  have HG := hid hG
  obtain ⟨X, hX⟩ : ∃ t, x / G = t := ⟨_, rfl⟩
  obtain ⟨Y, hY⟩ : ∃ t, y / G = t := ⟨_, rfl⟩
  have hXl : X ≤ x := by rw [← hX]; exact Nat.div_le_self _ _
  have hYl : Y ≤ y := by rw [← hY]; exact Nat.div_le_self _ _
  rw [hX, hY]
  have HX := hid hX
  have HY := hid hY
  clear hX hY
  clear hG g1
  go_enter Try.func16, Try.ntmps16
  go_wp2
  go_loopw [5, 6] (fun p q wr => ∃ (a b m : Nat), p = .int .i64 a ∧ q = .int .i64 b ∧ a ≤ 9223372036854775807 ∧ b ≤ 9223372036854775807 ∧ Hid (Nat.gcd a b = G) ∧ wr = W0.drewN m) (fun _ q _ => (intOf q).toNat)
  case atStart => exact ⟨x, y, 0, rfl, rfl, hx, hy, HG, rfl⟩
  case round =>
    obtain ⟨a, b, m, rfl, rfl, ha, hb, HI, hw⟩ := hrel
    rw [hw]
    clear hw
    by_cases h0 : b = 0
    · subst h0
      have hGa : a = G := by rw [← HI.out, Nat.gcd_zero_right]
      have hGn : ¬ a = 0 := by omega
      have h1 := ck_tdiv x a X (by rw [hGa]; exact HX.out)
      have h2 := ck_tdiv y a Y (by rw [hGa]; exact HY.out)
      clear hGa
      go_wp2
      have wX : IntKind.i64.wrap (X : Int) = (X : Int) := IntWalk.i64_in _ (by omega)
      have wY : IntKind.i64.wrap (Y : Int) = (Y : Int) := IntWalk.i64_in _ (by omega)
      go_region_held3 (fun _ => True) (exact trivial) (first | fail)
      go_wp2
      exact bodyPost_ret (v := .agg #[.int .i64 0, .int .i64 (X : Int), .int .i64 (Y : Int)]) (by simp [results, Try.results16, go_sem, c0, c1, c2]) rfl ⟨rfl, Below.setCell (Below.setCell (Below.setCell (below_drewN HB0.out _) (Nat.le_refl _) _) (Nat.le_refl _) _) (Nat.le_refl _) _⟩
    · have hb0 : ((b : Int) == 0) = false := by simp; omega
      obtain ⟨c, hc⟩ : ∃ c, a % b = c := ⟨_, rfl⟩
      have hcb : c < b := by rw [← hc]; exact Nat.mod_lt _ (by omega)
      have h1 := ck_tmod a b c hc
      have HI2 : Hid (Nat.gcd b c = G) := hid (by rw [← HI.out, ← hc, Nat.gcd_comm a b, Nat.gcd_rec b a, Nat.gcd_comm])
      clear hc
      go_wp2
      go_quiet (fail)
      go_wp2
      go_roundw
      case rel => exact ⟨b, c, _, rfl, rfl, hb, by omega, HI2, World.drewN_drewN _ _ _⟩
      case measure => simp [intOf]; omega
end Go.Proofs.Ytfdphegiafccpab
