
/- matrix: Zero and Eye of a side that may be. -/
import Derived.Test.YtfkpdjieiifldaaP38
namespace Go.Proofs.Ytfkpdjieiifldaa
open Go.RowKit Go.IntWalk

theorem side_yes (n : Nat) (h : n ≤ 12) : sideB n = true := by unfold sideB; simp; omega
set_option maxRecDepth 4000 in
set_option maxHeartbeats 1000000 in
theorem Zero_good (r c : Nat) (hr : r ≤ 12) (hc : c ≤ 12) (w : World) : Calls Try.prog 14 #[.int .i64 r, .int .i64 c] w fun e w' => (∃ g, e = .returned (.tuple #[MV r c (some ⟨g, 0, none⟩) (r * c) (r * c), .int .i64 0]) ∧ w.heap.size ≤ g ∧ w'.rowIs g 51 (r * c) (fun _ => .float .f64 0)) ∧ Below w.heap.size w w' := by
  have HS1 := hid (fun W => isSide_any r W)
  have HS2 := hid (fun W => isSide_any c W)
  rw [side_yes r hr] at HS1
  rw [side_yes c hc] at HS2
  have HZ := hid (fun W => zeros_any r c (by omega) (by omega) W)
  have HR : Hid ((w.alloc (MBox 0 0 none 0 0)).heap[w.heap.size]? = some (MBox 0 0 none 0 0)) := nblkM _ _
  have HB : Hid (Below w.heap.size w (w.alloc (MBox 0 0 none 0 0))) := (Below.refl _ _).alloc (Nat.le_refl _) _
  have HSZ : Hid ((w.alloc (MBox 0 0 none 0 0)).heap.size = w.heap.size + 1) := World.size_alloc _ _
  obtain ⟨V, hV⟩ : ∃ V, Hid (w.alloc (MBox 0 0 none 0 0) = V) := ⟨_, rfl⟩
  rw [hV.out] at HR HB HSZ
  have hV' := hV.out
  unfold MBox at hV'
  obtain ⟨N, hN⟩ : ∃ p, Hid (r * c = p) := ⟨_, rfl⟩
  rw [hN.out] at HZ ⊢
  unfold MV at HZ ⊢
  clear hr hc
  go_enter Try.func14, Try.ntmps14
  go_wp2_with fail
  refine (HS1.out _).mono ?_
  rintro e w1 ⟨rfl, rfl⟩
  go_wp2_with fail
  refine (HS2.out _).mono ?_
  rintro e w1 ⟨rfl, rfl⟩
  go_wp2_with fail
  refine (HZ.out _).mono ?_
  rintro e w2 ⟨rfl, hrow, hb2⟩
  have HB2 := hid (HB.out.trans (hb2.mono HB.out.size))
  have HR2 := hid (blkM HR.out hb2)
  have HW := hid hrow
  obtain ⟨g, hg⟩ : ∃ t, Hid (w1.heap.size + 1 = t) := ⟨_, rfl⟩
  rw [hg.out] at HW ⊢
  have HG : Hid (w.heap.size < g) := by
    have e1 := hg.out; have e2 := HSZ.out
    show _ < _
    omega
  obtain ⟨y0, y1, y2⟩ := mcells_of HR2.out
  have fz := frzM HR2.out
  clear hb2 hrow
  go_wp2_with fail
  exact bodyPost_ret (v := .tuple #[.agg #[.int .i64 r, .int .i64 c, .slice (some ⟨g, 0, none⟩) N N], .int .i64 0]) (by simp [results, Try.results14, go_sem, y0, y1, y2]) rfl ⟨⟨g, rfl, Nat.le_of_lt HG.out, HW.out.of_block (StoM.keep (Nat.ne_of_gt HG.out))⟩, StoM.below HB2.out (Nat.le_refl _)⟩
/-- The unit matrix' numbers. -/
def eyeF (n k : Nat) : Nat := if k / n = k % n then 4607182418800017408 else 0
theorem eye_at {n a b : Nat} (hb : b < n) : eyeF n (a * n + b) = if a = b then 4607182418800017408 else 0 := by
  unfold eyeF
  have e1 : (a * n + b) % n = b := by rw [Nat.mul_comm, Nat.mul_add_mod]; exact Nat.mod_eq_of_lt hb
  have e2 : (a * n + b) / n = a := by rw [Nat.mul_comm, Nat.mul_add_div (by omega), Nat.div_eq_of_lt hb, Nat.add_zero]
  rw [e1, e2]
theorem row_fn {W : World} {g N : Nat} {o : Nat → Nat} (h : W.rowIs g 51 N (fun k => .float .f64 (o k))) (ho : ∀ k, k < N → o k < 18446744073709551616) (hN : N ≤ 9223372036854775807) : FnM W (some ⟨g, 0, none⟩) N N o :=
  Or.inr ⟨g, 0, rfl, h.lt, Nat.le_refl _, hN, fun k hk => ⟨by rw [Nat.zero_add]; exact h.cell hk, ho k hk⟩⟩
set_option maxRecDepth 4000 in
set_option maxHeartbeats 2000000 in
theorem Eye_good (n : Nat) (hn : n ≤ 12) (w : World) : Calls Try.prog 17 #[.int .i64 n] w fun e w' => (∃ (g : Nat), e = .returned (.tuple #[.agg #[.int .i64 n, .int .i64 n, .slice (some ⟨g, 0, none⟩) (n * n) (n * n)], .int .i64 0]) ∧ Gd w' n n (some ⟨g, 0, none⟩) (n * n) (n * n) (eyeF n)) ∧ Below w.heap.size w w' := by
  have hst := fstoreM
  have hpp : n * n ≤ 144 := Nat.mul_le_mul hn hn
  have HZ := hid (fun W => Zero_good n n hn hn W)
  have HPL : Hid (∀ i j, i < n → j < n → i * n + j < n * n) := fun i j hi hj => place_lt hi hj
  have HN12 := hid hn
  have HEND : Hid (∀ (W : World) (g : Nat) (o : Nat → Nat), W.rowIs g 51 (n * n) (fun k => .float .f64 (o k)) → (∀ a b, a < n → b < n → o (a * n + b) = if a = b ∧ a < n then 4607182418800017408 else 0) → Gd W n n (some ⟨g, 0, none⟩) (n * n) (n * n) (eyeF n)) := fun W g o h1 h2 => by
    have ho : ∀ k, k < n * n → o k = eyeF n k := fun k hk => by
      obtain ⟨q1, q2, q3⟩ := split_k hk
      rw [← q3, h2 _ _ q1 q2, eye_at q2]
      by_cases h : k / n = k % n
      · rw [if_pos ⟨h, q1⟩, if_pos h]
      · rw [if_neg (fun hh => h hh.1), if_neg h]
    have hlt : ∀ k, eyeF n k < 18446744073709551616 := fun k => by unfold eyeF; split <;> decide
    refine ⟨hn, hn, rfl, (row_fn h1 (fun k hk => by rw [ho k hk]; exact hlt k) (by omega)).congr (fun k hk => ho k hk), finF_of (fun k _ => ?_)⟩
    unfold eyeF
    split <;> decide
  obtain ⟨N, hN⟩ : ∃ p, Hid (n * n = p) := ⟨_, rfl⟩
  rw [hN.out] at hpp HZ HPL HEND ⊢
  unfold MV at HZ
  have HR : Hid ((w.alloc (MBox 0 0 none 0 0)).heap[w.heap.size]? = some (MBox 0 0 none 0 0)) := nblkM _ _
  have HB : Hid (Below w.heap.size w (w.alloc (MBox 0 0 none 0 0))) := (Below.refl _ _).alloc (Nat.le_refl _) _
  have HSZ : Hid ((w.alloc (MBox 0 0 none 0 0)).heap.size = w.heap.size + 1) := World.size_alloc _ _
  obtain ⟨V, hV⟩ : ∃ V, Hid (w.alloc (MBox 0 0 none 0 0) = V) := ⟨_, rfl⟩
  rw [hV.out] at HR HB HSZ
  have hV' := hV.out
  unfold MBox at hV'
  clear hn
  go_enter Try.func17, Try.ntmps17
  go_wp2_with fail
  refine (HZ.out _).mono ?_
  rintro e w1 ⟨⟨g, rfl, hg, hrow⟩, hb1⟩
  have HSG : Hid (w.heap.size + 1 ≤ g ∧ g < w1.heap.size) := ⟨by have e2 := HSZ.out; omega, hrow.lt⟩
  have hal : Below w1.heap.size w1 (w1.alloc (MBox n n (some ⟨g, 0, none⟩) N N)) := (Below.refl _ _).alloc (Nat.le_refl _) _
  have HFR : Hid (FrF w (w1.alloc (MBox n n (some ⟨g, 0, none⟩) N N)) w1.heap.size w.heap.size (MBox n n (some ⟨g, 0, none⟩) N N) (MBox 0 0 none 0 0)) :=
    ⟨(HB.out.trans (hb1.mono HB.out.size)).trans (hal.mono (HB.out.trans (hb1.mono HB.out.size)).size), nblkM _ _, blkM (blkM HR.out hb1) hal⟩
  have HR0 : Hid ((w1.alloc (MBox n n (some ⟨g, 0, none⟩) N N)).rowIs g 51 N (fun _ => .float .f64 0)) := hrow.of_block (hal.block _ hrow.lt)
  obtain ⟨V1, hV1⟩ : ∃ V, Hid (w1.alloc (MBox n n (some ⟨g, 0, none⟩) N N) = V) := ⟨_, rfl⟩
  rw [hV1.out] at HFR HR0
  have hW1 := hV1.out
  obtain ⟨mb, hmb⟩ : ∃ V, Hid (w1.heap.size = V) := ⟨_, rfl⟩
  obtain ⟨rb, hrb⟩ : ∃ V, Hid (w.heap.size = V) := ⟨_, rfl⟩
  have HNE : Hid (mb ≠ g ∧ rb ≠ g ∧ w.heap.size ≤ g) := by
    have e1 := hmb.out; have e2 := hrb.out; have e4 := HSG.out
    show _ ∧ _ ∧ _
    omega
  rw [hmb.out, hrb.out] at HFR
  have hmb1 := hmb.out
  have hrb1 := hrb.out
  unfold MBox at hW1
  clear hal hg hrow hb1 HZ
  go_wp2_with fail
  go_loopw [20] (fun iv wr => ∃ (i : Nat) (o : Nat → Nat), i ≤ n ∧ iv = .int .i64 i ∧ Hid (wr.rowIs g 51 N (fun k => .float .f64 (o k))) ∧ Hid (∀ a b, a < n → b < n → o (a * n + b) = if a = b ∧ a < i then 4607182418800017408 else 0) ∧ Hid (FrF w wr mb rb (MBox n n (some ⟨g, 0, none⟩) N N) (MBox 0 0 none 0 0))) (fun iv _ => n - (intOf iv).toNat)
  case atStart => exact ⟨0, fun _ => 0, Nat.zero_le _, rfl, HR0, fun a b _ _ => by rw [if_neg (fun h => absurd h.2 (Nat.not_lt_zero a))], HFR⟩
  case round =>
    obtain ⟨i, o, hi, rfl, HR1, HP, HFW⟩ := hrel
    by_cases hlt : i < n
    · have hiI : (i : Int) < (n : Int) := by omega
      have HI := hid hlt
      have hkN := HPL.out i i hlt hlt
      have hp : i * n ≤ 144 := by omega
      have e1 : (i : Int) * (n : Int) = ((i * n : Nat) : Int) := by simp
      obtain ⟨p, hp'⟩ : ∃ p, Hid (i * n = p) := ⟨_, rfl⟩
      rw [hp'.out] at e1 hp hkN
      have e2 : (p : Int) + (i : Int) = ((p + i : Nat) : Int) := by simp
      obtain ⟨k, hk'⟩ : ∃ k, Hid (p + i = k) := ⟨_, rfl⟩
      have e3 := wrapM p (by omega)
      have e4 := wrapM k (by rw [← hk'.out]; omega)
      rw [hk'.out] at e2 hkN
      have k0 : (0 : Int) ≤ (k : Int) := by omega
      have k1 : (k : Int) < (N : Int) := by omega
      have cx := HR1.out.cell (i := k) hkN
      have fx := HR1.out.frozen k
      obtain ⟨m0, m1, m2⟩ := mcells_of HFW.out.2.1
      clear hlt hkN hp
      go_wp2_with fail
      have hkk : i * n + i = k := by rw [hp'.out, hk'.out]
      have hi1 := HI.out
      refine ⟨⟨i + 1, fun t => if t = k then 4607182418800017408 else o t, by omega, by go_num, ?_, fun a b ha hb => ?_, HFW.out.set HNE.out.1 HNE.out.2.1 HNE.out.2.2 _⟩, ?_⟩
      · refine (HR1.out.set k _).congr (fun t _ => ?_)
        by_cases ht : t = k <;> simp [ht]
      · by_cases h : a * n + b = k
        · obtain ⟨ea, eb⟩ := place_ne hb hi1 (h.trans hkk.symm)
          dsimp only
          rw [if_pos h, if_pos ⟨by omega, by omega⟩]
        · dsimp only
          rw [if_neg h, HP.out a b ha hb]
          by_cases hab : a = b ∧ a < i
          · rw [if_pos hab, if_pos ⟨hab.1, by omega⟩]
          · rw [if_neg hab, if_neg (fun hc => hab ⟨hc.1, by
              have : a ≠ i := fun hh => h (by rw [← hc.1, hh]; exact hkk)
              omega⟩)]
      · simp [intOf]; omega
    · obtain rfl : i = n := by omega
      obtain ⟨m0, m1, m2⟩ := mcells_of HFW.out.2.1
      obtain ⟨b0, b1, b2⟩ := mcells_of HFW.out.2.2
      have fz := frzM HFW.out.2.2
      go_wp2_with fail
      exact bodyPost_ret (v := .tuple #[.agg #[.int .i64 i, .int .i64 i, .slice (some ⟨g, 0, none⟩) N N], .int .i64 0]) (by simp [results, Try.results17, go_sem, b0, b1, b2]) rfl ⟨⟨g, rfl, HEND.out _ g o (HR1.out.of_block (StoM.keep (Ne.symm HNE.out.2.1))) HP.out⟩, StoM.below HFW.out.1 (by have := hrb.out; omega)⟩
end Go.Proofs.Ytfkpdjieiifldaa
