
/- matrix: a place of a matrix, noughts, whether it may be. -/
import Derived.Test.YtfkpdjieiifldabP23
namespace Go.Proofs.Ytfkpdjieiifldab
open Go.RowKit Go.IntWalk
theorem wrapM (x : Nat) (h : x ≤ 1000000) : IntKind.i64.wrap (x : Int) = (x : Int) := IntWalk.i64_in _ (by omega)
set_option maxHeartbeats 400000 in
theorem at_any (r : Int) (sa : Option Addr) (c n cap i j : Nat) (xs : List Nat) (w : World) (h : FlM w sa n cap xs) (hi : i ≤ 100) (hc : c ≤ 100) (hj : j ≤ 100) (hk : i * c + j < n) : Calls Try.prog 65 #[MV r c sa n cap, .int .i64 i, .int .i64 j] w fun r w' => r = .returned (.float .f64 (xs.getD (i * c + j) 0)) ∧ Below w.heap.size w w' := by
  obtain ⟨b, off, rfl, h1, h2, _⟩ := h.at (by omega)
  have hp : i * c ≤ 10000 := Nat.mul_le_mul hi hc
  have hc0 := h2 _ hk
  have e1 : (i : Int) * (c : Int) = ((i * c : Nat) : Int) := by simp
  obtain ⟨p, hp'⟩ : ∃ p, Hid (i * c = p) := ⟨_, rfl⟩
  rw [hp'.out] at e1 hp hk hc0 ⊢
  have e2 : (p : Int) + (j : Int) = ((p + j : Nat) : Int) := by simp
  obtain ⟨k, hk'⟩ : ∃ k, Hid (p + j = k) := ⟨_, rfl⟩
  have e3 := wrapM p (by omega)
  have e4 := wrapM k (by rw [← hk'.out]; omega)
  rw [hk'.out] at e2 hk hc0 ⊢
  have k0 : (0 : Int) ≤ (k : Int) := by omega
  have k1 : (k : Int) < (n : Int) := by omega
  have hcell : (w.alloc (MBox r c (some ⟨b, off, none⟩) n cap)).cell? ⟨b, off + k, none⟩ = some (.float .f64 (xs.getD k 0)) := by
    rw [((Below.refl w.heap.size w).alloc (Nat.le_refl _) _).cell (p := ⟨b, off + k, none⟩) h1]
    exact hc0
  have HB : Hid (Below w.heap.size w (w.alloc (MBox r c (some ⟨b, off, none⟩) n cap))) := (Below.refl _ _).alloc (Nat.le_refl _) _
  obtain ⟨x, hx⟩ : ∃ x, Hid (xs.getD k 0 = x) := ⟨_, rfl⟩
  rw [hx.out] at hcell ⊢
  unfold MBox at HB hcell
  unfold MV
  clear h h1 h2 hc0 hi hc hj hp
  go_enter Try.func65, Try.ntmps65
  go_wp2_with fail
  go_ret
  exact ⟨rfl, HB.out⟩
theorem nblkM (w : World) (o : Obj) : (w.alloc o).heap[w.heap.size]? = some o := (MapKept.heap_alloc w o).1
theorem info_fM : (Try.prog.info? 36).map (fun i => (i.zero, i.size, i.bytes)) = some (some (.float .f64 0), 1, 8) := by kernel_rfl
theorem fstoreM (W : World) (a : Addr) (x : Nat) : (store a (.float .f64 x)).run Try.prog W = stored Try.prog W a (.float .f64 x) .plain := run_store _ _ _ _ _ rfl
set_option maxHeartbeats 400000 in
theorem zeros_any (r c : Nat) (hr : r ≤ 100) (hc : c ≤ 100) (w : World) : Calls Try.prog 84 #[.int .i64 r, .int .i64 c] w fun e w' => e = .returned (MV r c (some ⟨w.heap.size + 1, 0, none⟩) (r * c) (r * c)) ∧ w'.rowIs (w.heap.size + 1) 36 (r * c) (fun _ => .float .f64 0) ∧ Below w.heap.size w w' := by
  have hp : r * c ≤ 10000 := Nat.mul_le_mul hr hc
  have e1 : (r : Int) * (c : Int) = ((r * c : Nat) : Int) := by simp
  obtain ⟨N, hN⟩ : ∃ p, Hid (r * c = p) := ⟨_, rfl⟩
  rw [hN.out] at e1 hp ⊢
  have hmk := run_make_row' (P := Try.prog) 26 36 (.float .f64 0) 8 Try.underlying26 info_fM rfl .i64 .i64 N (by omega) (by omega)
  have e3 := wrapM N (by omega)
  unfold MV
  clear hr hc
  go_enter Try.func84, Try.ntmps84
  go_wp2_with fail
  refine bodyPost_ret (v := .agg #[.int .i64 r, .int .i64 c, .slice (some ⟨w.heap.size + 1, 0, none⟩) N N]) (by simp [results, Try.results84, go_sem]) rfl ⟨rfl, ?_, ((Below.refl _ _).alloc (Nat.le_refl _) _).alloc (by simp) _⟩
  have := World.rowIs_made (w.alloc (MBox r c (some ⟨w.heap.size + 1, 0, none⟩) N N)) (.float .f64 0) N 36
  rw [World.size_alloc] at this
  exact this
/-- What is wrong with a matrix. -/
def chkM (r c : Int) (n : Nat) (xs : List Nat) : Int := if sideB r = false ∨ sideB c = false then 1 else if (n : Int) ≠ r * c then 3 else if finM xs = false then 4 else 0
set_option maxHeartbeats 1000000 in
theorem Check_any (r c : Int) (sa : Option Addr) (n cap : Nat) (xs : List Nat) (w : World) (h : FlM w sa n cap xs) (hn : n ≤ 17592186043904) : Calls Try.prog 14 #[MV r c sa n cap] w fun e w' => e = .returned (.int .i64 (chkM r c n xs)) ∧ Below w.heap.size w w' := by
  have HB0 : Hid (Below w.heap.size w (w.alloc (MBox r c sa n cap))) := (Below.refl _ _).alloc (Nat.le_refl _) _
  obtain ⟨z0, z1, z2⟩ := mcells_of (w := w.alloc (MBox r c sa n cap)) (b := w.heap.size) (nblkM _ _)
  obtain ⟨W0, hW0⟩ : ∃ V, Hid (w.alloc (MBox r c sa n cap) = V) := ⟨_, rfl⟩
  rw [hW0.out] at HB0 z0 z1 z2
  have HF := hid (FinM_any sa n cap xs W0 (h.below HB0.out) hn)
  have hW := hW0.out
  unfold MBox at hW
  obtain ⟨E, hE⟩ : ∃ E, Hid (chkM r c n xs = E) := ⟨_, rfl⟩
  rw [hE.out]
  unfold MV
  clear h
  go_enter Try.func14, Try.ntmps14
  go_wp2_with fail
  refine (isSide_any r _).mono ?_
  rintro e w1 ⟨rfl, rfl⟩
  cases h1 : sideB r with
  | false =>
    obtain rfl : E = 1 := by rw [← hE.out]; unfold chkM; rw [if_pos (Or.inl h1)]
    go_wp2_with fail
    go_ret
    exact ⟨rfl, HB0.out⟩
  | true =>
    go_wp2_with fail
    refine (isSide_any c _).mono ?_
    rintro e w1 ⟨rfl, rfl⟩
    cases h2 : sideB c with
    | false =>
      obtain rfl : E = 1 := by rw [← hE.out]; unfold chkM; rw [if_pos (Or.inr h2)]
      go_wp2_with fail
      go_ret
      exact ⟨rfl, HB0.out⟩
    | true =>
      have hr : 0 ≤ r ∧ r ≤ 12 := by unfold sideB at h1; simpa using h1
      have hc : 0 ≤ c ∧ c ≤ 12 := by unfold sideB at h2; simpa using h2
      have hE2 : E = if (n : Int) ≠ r * c then 3 else if finM xs = false then 4 else 0 := by rw [← hE.out]; unfold chkM; rw [if_neg (by simp [h1, h2])]
      obtain ⟨a, rfl⟩ := Int.eq_ofNat_of_zero_le hr.1
      obtain ⟨b, rfl⟩ := Int.eq_ofNat_of_zero_le hc.1
      have hp : a * b ≤ 12 * 12 := Nat.mul_le_mul (by omega) (by omega)
      have e1 : (a : Int) * (b : Int) = ((a * b : Nat) : Int) := by simp
      obtain ⟨N, hN⟩ : ∃ p, Hid (a * b = p) := ⟨_, rfl⟩
      rw [hN.out] at e1 hp
      rw [e1] at hE2
      have e3 := wrapM N (by omega)
      by_cases h3 : (n : Int) = (N : Int)
      · have hne : ((n : Int) != (N : Int)) = false := by simp [h3]
        rw [if_neg (by simpa using h3)] at hE2
        have HE2 := hid hE2
        clear h1 h2 hr hc hp hE2 h3
        go_wp2_with fail
        refine HF.out.mono ?_
        rintro e w2 ⟨rfl, hb2⟩
        have HB2 := hid (HB0.out.trans (hb2.mono HB0.out.size))
        clear hb2
        cases h4 : finM xs with
        | false =>
          obtain rfl : E = 4 := by rw [HE2.out, if_pos h4]
          go_wp2_with fail
          go_ret
          exact ⟨rfl, HB2.out⟩
        | true =>
          obtain rfl : E = 0 := by rw [HE2.out, if_neg (by simp [h4])]
          go_wp2_with fail
          go_ret
          exact ⟨rfl, HB2.out⟩
      · have hne : ((n : Int) != (N : Int)) = true := by simpa using h3
        obtain rfl : E = 3 := by rw [hE2, if_pos h3]
        clear h1 h2 hr hc hp hE2 h3
        go_wp2_with fail
        go_ret
        exact ⟨rfl, HB0.out⟩
end Go.Proofs.Ytfkpdjieiifldab
