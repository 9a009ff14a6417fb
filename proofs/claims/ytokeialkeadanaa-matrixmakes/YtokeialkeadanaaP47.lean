
/- Diag of any list, by matrix and by the document. (Written by mknfc.py.) -/
import Derived.Test.YtokeialkeadanaaP46
namespace Go.Proofs.Ytokeialkeadanaa
open Go.RowKit Go.IntWalk

def diaV (xs : List Nat) (i j : Nat) : Nat := if i = j then canonOf (xs.getD i 0) else 0
theorem lst_zero12 {n : Nat} {xs : List Nat} (h : lstE n xs = 0) : n ≤ 12 ∧ finM xs = true := by
  unfold lstE at h
  by_cases h1 : 12 < n
  · rw [if_pos h1] at h; cases h
  · rw [if_neg h1] at h
    cases h2 : finM xs with
    | true => exact ⟨by omega, rfl⟩
    | false => rw [h2] at h; cases h
theorem dia_res {n g ka : Nat} {sa : Option Addr} {xs : List Nat} {w W : World} {o : Nat → Nat} (ha : FlM w sa n ka xs) (hz : lstE n xs = 0) (h1 : W.rowIs g 57 (n * n) (fun k => .float .f64 (o k))) (h2 : ∀ a b, a < n → b < n → o (a * n + b) = if a = b ∧ a < n then xs.getD a 0 else 0) (h3 : ∀ k, o k < 18446744073709551616) : ResM 0 n n (diaV xs) W n n (some ⟨g, 0, none⟩) (n * n) (n * n) := by
  obtain ⟨hn, hf⟩ := lst_zero12 hz
  have hpp : n * n ≤ 144 := Nat.mul_le_mul hn hn
  refine Or.inl ⟨rfl, rfl, rfl, rfl, rfl, g, o, rfl, row_fn h1 (fun k _ => h3 k) (by omega), fun i j hi hj => ?_, (finF_iff _ _).2 (fun k hk => ?_)⟩
  · rw [h2 i j hi hj]
    unfold diaV
    by_cases h : i = j
    · rw [if_pos ⟨h, hi⟩, if_pos h]
    · rw [if_neg (fun q => h q.1), if_neg h]; decide
  · obtain ⟨q1, q2, q3⟩ := split_k hk
    rw [← q3, h2 _ _ q1 q2]
    by_cases h : k / n = k % n ∧ k / n < n
    · rw [if_pos h]
      unfold finM at hf
      rw [List.all_eq_true] at hf
      have := hf _ (mem_getM xs (k / n) (by rw [ha.1]; exact q1))
      simpa using this
    · rw [if_neg h]; decide
set_option maxRecDepth 4000 in
set_option maxHeartbeats 4000000 in
theorem Diag_ok (sa : Option Addr) (n ka : Nat) (xs : List Nat) (w : World) (ha : FlM w sa n ka xs) (hz : lstE n xs = 0) : Calls Try.prog 15 #[.slice sa n ka] w fun e w' => (∃ X0 X1 X2 X3 X4, e = .returned (.tuple #[.agg #[.int .i64 X0, .int .i64 X1, .slice X2 X3 X4], .int .i64 0]) ∧ ResM 0 n n (diaV xs) w' X0 X1 X2 X3 X4) ∧ Below w.heap.size w w' := by
  have hst := fstoreM
  have hn := (lst_zero12 hz).1
  have HN12 := hid hn
  have HA := hid ha
  have HCL := hid (fun W (hW : Below w.heap.size w W) => chkL_any sa n ka xs W (ha.below hW) (by omega))
  rw [hz] at HCL
  have HZ := hid (fun W => zeros_any n n (by omega) (by omega) W)
  have HEND := hid (fun W g (o : Nat → Nat) h1 h2 h3 => dia_res (W := W) (g := g) (o := o) ha hz h1 h2 h3)
  have HN144 : Hid (n * n ≤ 144) := Nat.mul_le_mul hn hn
  have HPL : Hid (∀ i j, i < n → j < n → i * n + j < n * n) := fun i j hi hj => place_lt hi hj
  obtain ⟨N, hN⟩ : ∃ p, Hid (n * n = p) := ⟨_, rfl⟩
  rw [hN.out] at HZ HEND HN144 HPL
  unfold MV at HZ
  have HR : Hid ((w.alloc (MBox 0 0 none 0 0)).heap[w.heap.size]? = some (MBox 0 0 none 0 0)) := nblkM _ _
  have HB : Hid (Below w.heap.size w (w.alloc (MBox 0 0 none 0 0))) := (Below.refl _ _).alloc (Nat.le_refl _) _
  obtain ⟨V, hV⟩ : ∃ V, Hid (w.alloc (MBox 0 0 none 0 0) = V) := ⟨_, rfl⟩
  rw [hV.out] at HR HB
  have hV' := hV.out
  unfold MBox at hV'
  have HSZ : Hid (w.heap.size < V.heap.size) := (Array.getElem?_eq_some_iff.1 HR.out).1
  clear hn ha hz
  go_enter Try.func15, Try.ntmps15
  go_wp2_with fail
  refine (HCL.out _ HB.out).mono ?_
  rintro e w0 ⟨rfl, hb0⟩
  replace HB := hid (HB.out.trans (hb0.mono HB.out.size))
  replace HR := hid (blkM HR.out hb0)
  replace HSZ : Hid (w.heap.size < w0.heap.size) := Nat.lt_of_lt_of_le HSZ.out hb0.size
  clear hb0
  go_wp2_with fail
  refine (HZ.out _).mono ?_
  rintro e w1 ⟨rfl, hrow, hb1⟩
  obtain ⟨g, hg⟩ : ∃ t, Hid (w0.heap.size + 1 = t) := ⟨_, rfl⟩
  rw [hg.out] at hrow
  rw [hg.out]
  have hal : Below w1.heap.size w1 (w1.alloc (MBox n n (some ⟨g, 0, none⟩) N N)) := (Below.refl _ _).alloc (Nat.le_refl _) _
  have HFR : Hid (FrF w (w1.alloc (MBox n n (some ⟨g, 0, none⟩) N N)) w1.heap.size w.heap.size (MBox n n (some ⟨g, 0, none⟩) N N) (MBox 0 0 none 0 0)) :=
    ⟨(HB.out.trans (hb1.mono HB.out.size)).trans (hal.mono (HB.out.trans (hb1.mono HB.out.size)).size), nblkM _ _, blkM (blkM HR.out hb1) hal⟩
  have HR0 : Hid ((w1.alloc (MBox n n (some ⟨g, 0, none⟩) N N)).rowIs g 57 N (fun _ => .float .f64 0)) := hrow.of_block (hal.block _ hrow.lt)
  obtain ⟨V1, hV1⟩ : ∃ V, Hid (w1.alloc (MBox n n (some ⟨g, 0, none⟩) N N) = V) := ⟨_, rfl⟩
  rw [hV1.out] at HFR HR0
  have hW1 := hV1.out
  have HSG : Hid (w.heap.size + 1 ≤ g ∧ g < w1.heap.size) := ⟨by have e2 := HSZ.out; have e3 := hg.out; omega, hrow.lt⟩
  obtain ⟨mb, hmb⟩ : ∃ V, Hid (w1.heap.size = V) := ⟨_, rfl⟩
  obtain ⟨rb, hrb⟩ : ∃ V, Hid (w.heap.size = V) := ⟨_, rfl⟩
  have HNE : Hid (mb ≠ g ∧ rb ≠ g ∧ w.heap.size ≤ g) := by
    have e1 := hmb.out; have e2 := hrb.out; have e4 := HSG.out
    show _ ∧ _ ∧ _
    omega
  rw [hmb.out, hrb.out] at HFR
  have hmb1 := hmb.out
  have hrb1 := hrb.out
  unfold MBox at hW1
  clear hal hrow hb1
  go_wp2_with fail
  go_loopw [22] (fun iv wr => ∃ (i : Nat) (o : Nat → Nat), i ≤ n ∧ iv = .int .i64 i ∧ Hid (wr.rowIs g 57 N (fun k => .float .f64 (o k))) ∧ Hid (∀ a b, a < n → b < n → o (a * n + b) = if a = b ∧ a < i then xs.getD a 0 else 0) ∧ Hid (∀ k, o k < 18446744073709551616) ∧ Hid (FrF w wr mb rb (MBox n n (some ⟨g, 0, none⟩) N N) (MBox 0 0 none 0 0))) (fun iv _ => n - (intOf iv).toNat)
  case atStart => exact ⟨0, fun _ => 0, Nat.zero_le _, rfl, HR0, fun a b _ _ => by rw [if_neg (fun h => absurd h.2 (Nat.not_lt_zero a))], fun _ => by show 0 < 18446744073709551616; decide, HFR⟩
  case round =>
    obtain ⟨i, o, hi, rfl, HR1, HP, HLO, HFW⟩ := hrel
    have n12 := HN12.out
    by_cases hlt : i < n
    · have hiI : (i : Int) < (n : Int) := by omega
      have HI := hid hlt
      obtain ⟨sb, so, rfl, hbl, hcl, hlx⟩ := HA.out.at (by omega)
      have hci := hcl i hlt
      have HXX := hid (hlx i hlt)
      obtain ⟨x, hx⟩ : ∃ x, Hid (xs.getD i 0 = x) := ⟨_, rfl⟩
      have HXV : Hid (x = xs.getD i 0) := hx.out.symm
      rw [hx.out] at hci HXX
      have HQ0 : Hid (FrF w wr.drew mb rb (MBox n n (some ⟨g, 0, none⟩) N N) (MBox 0 0 none 0 0)) := HFW.out.drew
      have HRD : Hid (wr.drew.rowIs g 57 N (fun k => .float .f64 (o k))) := HR1.out.of_block rfl
      have HKS : Hid (∀ W, Hid (FrF w W mb rb (MBox n n (some ⟨g, 0, none⟩) N N) (MBox 0 0 none 0 0)) → (W.cell? ⟨mb, 0, none⟩ = some (.int .i64 n) ∧ W.cell? ⟨mb, 1, none⟩ = some (.int .i64 n) ∧ W.cell? ⟨mb, 2, none⟩ = some (.slice (some ⟨g, 0, none⟩) N N) ∧ W.cell? ⟨sb, so + i, none⟩ = some (.float .f64 x)) ∧ Hid (FrF w W mb rb (MBox n n (some ⟨g, 0, none⟩) N N) (MBox 0 0 none 0 0))) := fun W hW => by
        obtain ⟨a0, a1, a2⟩ := mcells_of hW.out.2.1
        exact ⟨⟨a0, a1, a2, (hW.out.1.cell (p := ⟨sb, so + i, none⟩) hbl).trans hci⟩, hW⟩
      have hkN := HPL.out i i hlt hlt
      have hp : i * n ≤ 144 := by have := HN144.out; omega
      have e1 : (i : Int) * (n : Int) = ((i * n : Nat) : Int) := by simp
      obtain ⟨p, hp'⟩ : ∃ p, Hid (i * n = p) := ⟨_, rfl⟩
      rw [hp'.out] at e1 hp hkN
      have e2 : (p : Int) + (i : Int) = ((p + i : Nat) : Int) := by simp
      obtain ⟨k, hk'⟩ : ∃ k, Hid (p + i = k) := ⟨_, rfl⟩
      have e3 := wrapM p (by omega)
      have e4 := wrapM k (by have := HN144.out; rw [← hk'.out]; omega)
      rw [hk'.out] at e2 hkN
      have k0 : (0 : Int) ≤ (k : Int) := by omega
      have k1 : (k : Int) < (N : Int) := by omega
      have hkk : i * n + i = k := by rw [hp'.out, hk'.out]
      have HCELL := hid (HRD.out.cell (i := k) hkN)
      have HFRZ := hid (HRD.out.frozen k)
      have HG4 : Hid (FrF w (wr.drew.setCell ⟨g, k, none⟩ (.float .f64 x)) mb rb (MBox n n (some ⟨g, 0, none⟩) N N) (MBox 0 0 none 0 0)) := HQ0.out.set HNE.out.1 HNE.out.2.1 HNE.out.2.2 _
      have HR4 : Hid ((wr.drew.setCell ⟨g, k, none⟩ (.float .f64 x)).rowIs g 57 N (fun t => .float .f64 (if t = i * n + i then x else o t))) := by
        rw [hkk]
        refine (HRD.out.set k _).congr (fun t _ => ?_)
        by_cases ht : t = k <;> simp [ht]
      have HKK := hid hkk
      clear hkk hkN hp
      clear hlt hbl hcl hlx hci
      go_wp2_with fail
      refine wp_region_held_drew (S := fun W => (W.cell? ⟨mb, 0, none⟩ = some (.int .i64 n) ∧ W.cell? ⟨mb, 1, none⟩ = some (.int .i64 n) ∧ W.cell? ⟨mb, 2, none⟩ = some (.slice (some ⟨g, 0, none⟩) N N) ∧ W.cell? ⟨sb, so + i, none⟩ = some (.float .f64 x)) ∧ Hid (FrF w W mb rb (MBox n n (some ⟨g, 0, none⟩) N N) (MBox 0 0 none 0 0))) (by kernel_rfl) (HKS.out _ HQ0) (fun hHeld => ?_)
      refine take_at 0 25 (.pointer (some ⟨mb, 2, none⟩)) rfl rfl (by kernel_rfl) (by kernel_rfl) (by kernel_rfl) (fun _ _ _ h => h) (Or.inl ⟨by rfl, fun w hSw => by (try dsimp only at hSw); go_simp⟩) (by assumption) ?_
      simp only [Act.put, List.setIfInBounds_toArray, List.set_cons_zero, List.set_cons_succ]
      refine take_at 1 26 (.slice (some ⟨g, 0, none⟩) N N) rfl rfl (by kernel_rfl) (by kernel_rfl) (by kernel_rfl) (fun _ _ _ h => h) (Or.inl ⟨by rfl, fun w hSw => by (try dsimp only at hSw); go_simp⟩) (by assumption) ?_
      simp only [Act.put, List.setIfInBounds_toArray, List.set_cons_zero, List.set_cons_succ]
      refine take_at 2 27 (.int .i64 i) rfl rfl (by kernel_rfl) (by kernel_rfl) (by kernel_rfl) (fun _ _ _ h => h) (Or.inl ⟨by rfl, fun w hSw => by (try dsimp only at hSw); go_simp⟩) (by assumption) ?_
      simp only [Act.put, List.setIfInBounds_toArray, List.set_cons_zero, List.set_cons_succ]
      refine take_at 3 28 (.int .i64 n) rfl rfl (by kernel_rfl) (by kernel_rfl) (by kernel_rfl) (fun _ _ _ h => h) (Or.inl ⟨by rfl, fun w hSw => by (try dsimp only at hSw); go_simp⟩) (by assumption) ?_
      simp only [Act.put, List.setIfInBounds_toArray, List.set_cons_zero, List.set_cons_succ]
      refine take_at 4 29 (.int .i64 p) rfl rfl (by kernel_rfl) (by kernel_rfl) (by kernel_rfl) (fun _ _ _ h => h) (Or.inl ⟨by rfl, fun w hSw => by (try dsimp only at hSw); go_simp⟩) (by assumption) ?_
      simp only [Act.put, List.setIfInBounds_toArray, List.set_cons_zero, List.set_cons_succ]
      refine take_at 5 30 (.int .i64 i) rfl rfl (by kernel_rfl) (by kernel_rfl) (by kernel_rfl) (fun _ _ _ h => h) (Or.inl ⟨by rfl, fun w hSw => by (try dsimp only at hSw); go_simp⟩) (by assumption) ?_
      simp only [Act.put, List.setIfInBounds_toArray, List.set_cons_zero, List.set_cons_succ]
      refine take_at 6 31 (.int .i64 k) rfl rfl (by kernel_rfl) (by kernel_rfl) (by kernel_rfl) (fun _ _ _ h => h) (Or.inl ⟨by rfl, fun w hSw => by (try dsimp only at hSw); go_simp⟩) (by assumption) ?_
      simp only [Act.put, List.setIfInBounds_toArray, List.set_cons_zero, List.set_cons_succ]
      refine take_at 7 32 (.slice (some ⟨sb, so, none⟩) n ka) rfl rfl (by kernel_rfl) (by kernel_rfl) (by kernel_rfl) (fun _ _ _ h => h) (Or.inl ⟨by rfl, fun w hSw => by (try dsimp only at hSw); go_simp⟩) (by assumption) ?_
      simp only [Act.put, List.setIfInBounds_toArray, List.set_cons_zero, List.set_cons_succ]
      refine take_at 8 33 (.int .i64 i) rfl rfl (by kernel_rfl) (by kernel_rfl) (by kernel_rfl) (fun _ _ _ h => h) (Or.inl ⟨by rfl, fun w hSw => by (try dsimp only at hSw); go_simp⟩) (by assumption) ?_
      simp only [Act.put, List.setIfInBounds_toArray, List.set_cons_zero, List.set_cons_succ]
      refine take_at 9 34 (.pointer (some ⟨sb, so + i, none⟩)) rfl rfl (by kernel_rfl) (by kernel_rfl) (by kernel_rfl) (fun _ _ _ h => h) (Or.inl ⟨by rfl, fun w hSw => by (try dsimp only at hSw); go_simp⟩) (by assumption) ?_
      simp only [Act.put, List.setIfInBounds_toArray, List.set_cons_zero, List.set_cons_succ]
      refine take_at 10 35 (.float .f64 x) rfl rfl (by kernel_rfl) (by kernel_rfl) (by kernel_rfl) (fun _ _ _ h => h) (Or.inl ⟨by rfl, fun w hSw => by (try dsimp only at hSw); go_simp⟩) (by assumption) ?_
      simp only [Act.put, List.setIfInBounds_toArray, List.set_cons_zero, List.set_cons_succ]
      refine take_at 11 36 (.pointer (some ⟨g, k, none⟩)) rfl rfl (by kernel_rfl) (by kernel_rfl) (by kernel_rfl) (fun _ _ _ h => h) (Or.inl ⟨by rfl, fun w hSw => by (try dsimp only at hSw); go_simp⟩) (by assumption) ?_
      simp only [Act.put, List.setIfInBounds_toArray, List.set_cons_zero, List.set_cons_succ]
      refine wpAnyH_ready (rs := [12]) (by kernel_rfl) (by simp) ?_
      refine AllReadyH.cons (o := _) rfl (fun K hK => ?_) AllReadyH.nil
      have zc := HCELL.out
      have fzz := HFRZ.out
      go_simp
      go_wp2_with fail
      refine hK.out _ _ (HKS.out _ HG4) (fun hHeld4 => ?_)
      clear hK K
      try simp only [Act.put, List.setIfInBounds_toArray, List.set_cons_zero, List.set_cons_succ]
      refine wpAnyH_done (by kernel_rfl) ?_ _
      go_wp2_with fail
      have hi1 := HI.out
      refine ⟨⟨i + 1, fun t => if t = i * n + i then x else o t, by omega, by go_num, HR4, fun a b ha hb => ?_, fun k => ?_, HG4⟩, ?_⟩
      · by_cases h : a * n + b = i * n + i
        · obtain ⟨ea, eb⟩ := place_ne hb hi1 h
          subst ea
          dsimp only
          rw [if_pos h, if_pos ⟨eb.symm, by omega⟩]
          try exact HXV.out
        · dsimp only
          rw [if_neg h, HP.out a b ha hb]
          by_cases hab : a = b ∧ a < i
          · rw [if_pos hab, if_pos ⟨hab.1, by omega⟩]
          · rw [if_neg hab, if_neg (fun hc => hab ⟨hc.1, by
              have : a ≠ i := fun hh => h (by rw [← hc.1, hh])
              omega⟩)]
      · dsimp only
        by_cases h : k = i * n + i
        · rw [if_pos h]; exact HXX.out
        · rw [if_neg h]; exact HLO.out k
      · simp [intOf]; omega
    · obtain rfl : i = n := by omega
      obtain ⟨m0, m1, m2⟩ := mcells_of HFW.out.2.1
      obtain ⟨b0, b1, b2⟩ := mcells_of HFW.out.2.2
      have fz := frzM HFW.out.2.2
      have HFIN := hid (HEND.out _ g o (HR1.out.of_block (StoM.keep (r := i) (c := i) (sa := some ⟨g, 0, none⟩) (n := N) (cap := N) (Ne.symm HNE.out.2.1))) HP.out HLO.out)
      go_wp2_with fail
      exact bodyPost_ret (v := .tuple #[.agg #[.int .i64 i, .int .i64 i, .slice (some ⟨g, 0, none⟩) N N], .int .i64 0]) (by simp [results, Try.results15, go_sem, b0, b1, b2]) rfl ⟨⟨_, _, _, _, _, rfl, HFIN.out⟩, StoM.below HFW.out.1 (by have := hrb.out; omega)⟩
set_option maxRecDepth 4000 in
set_option maxHeartbeats 4000000 in
theorem rDiag_ok (sa : Option Addr) (n ka : Nat) (xs : List Nat) (w : World) (ha : FlM w sa n ka xs) (hz : lstE n xs = 0) : Calls Try.prog 16 #[.slice sa n ka] w fun e w' => (∃ X0 X1 X2 X3 X4, e = .returned (.tuple #[.agg #[.int .i64 X0, .int .i64 X1, .slice X2 X3 X4], .int .i64 0]) ∧ ResM 0 n n (diaV xs) w' X0 X1 X2 X3 X4) ∧ Below w.heap.size w w' := by
  have hst := fstoreM
  have hn := (lst_zero12 hz).1
  have HN12 := hid hn
  have HA := hid ha
  have HCL := hid (fun W (hW : Below w.heap.size w W) => rList_any sa n ka xs W (ha.below hW) (by omega))
  rw [hz] at HCL
  have HZ := hid (fun W => rRaw_any n n (by omega) (by omega) W)
  have HEND := hid (fun W g (o : Nat → Nat) h1 h2 h3 => dia_res (W := W) (g := g) (o := o) ha hz h1 h2 h3)
  have HN144 : Hid (n * n ≤ 144) := Nat.mul_le_mul hn hn
  have HPL : Hid (∀ i j, i < n → j < n → i * n + j < n * n) := fun i j hi hj => place_lt hi hj
  have HPUT0 : Hid (∀ W (g x p q : Nat) (o : Nat → Nat), W.rowIs g 57 (n * n) (fun k => .float .f64 (o k)) → p < n → q < n → Calls Try.prog 37 #[.agg #[.int .i64 n, .int .i64 n, .slice (some ⟨g, 0, none⟩) (n * n) (n * n)], .int .i64 (p : Nat), .int .i64 (q : Nat), .float .f64 x] W fun e w' => e = .returned (.tuple #[]) ∧ w' = (W.alloc (MBox n n (some ⟨g, 0, none⟩) (n * n) (n * n))).setCell ⟨g, p * n + q, none⟩ (.float .f64 x)) := fun W g x p q o hW hp hq => by
    have hk := place_lt hp hq
    have := HN12.out
    exact Put_any n g n _ _ p q x _ W (hW.cell hk) (hW.frozen _) hW.lt (by omega) (by omega) (by omega) hk
  obtain ⟨N, hN⟩ : ∃ p, Hid (n * n = p) := ⟨_, rfl⟩
  rw [hN.out] at HZ HEND HN144 HPL HPUT0
  unfold MV at HZ
  have HR : Hid ((w.alloc (MBox 0 0 none 0 0)).heap[w.heap.size]? = some (MBox 0 0 none 0 0)) := nblkM _ _
  have HB : Hid (Below w.heap.size w (w.alloc (MBox 0 0 none 0 0))) := (Below.refl _ _).alloc (Nat.le_refl _) _
  obtain ⟨V, hV⟩ : ∃ V, Hid (w.alloc (MBox 0 0 none 0 0) = V) := ⟨_, rfl⟩
  rw [hV.out] at HR HB
  have hV' := hV.out
  unfold MBox at hV'
  have HSZ : Hid (w.heap.size < V.heap.size) := (Array.getElem?_eq_some_iff.1 HR.out).1
  clear hn ha hz
  go_enter Try.func16, Try.ntmps16
  go_wp2_with fail
  refine (HCL.out _ HB.out).mono ?_
  rintro e ww ⟨rfl, hw⟩
  rw [hw]
  clear hw
  go_wp2_with fail
  refine (HZ.out _).mono ?_
  rintro e w1 ⟨rfl, hrow, hb1⟩
  obtain ⟨g, hg⟩ : ∃ t, Hid (V.heap.size + 1 = t) := ⟨_, rfl⟩
  rw [hg.out] at hrow
  rw [hg.out]
  have HPUT := hid (fun W x i j o => HPUT0.out W g x i j o)
  have hal : Below w1.heap.size w1 (w1.alloc (MBox n n (some ⟨g, 0, none⟩) N N)) := (Below.refl _ _).alloc (Nat.le_refl _) _
  have HFR : Hid (FrF w (w1.alloc (MBox n n (some ⟨g, 0, none⟩) N N)) w1.heap.size w.heap.size (MBox n n (some ⟨g, 0, none⟩) N N) (MBox 0 0 none 0 0)) :=
    ⟨(HB.out.trans (hb1.mono HB.out.size)).trans (hal.mono (HB.out.trans (hb1.mono HB.out.size)).size), nblkM _ _, blkM (blkM HR.out hb1) hal⟩
  have HR0 : Hid ((w1.alloc (MBox n n (some ⟨g, 0, none⟩) N N)).rowIs g 57 N (fun _ => .float .f64 0)) := hrow.of_block (hal.block _ hrow.lt)
  obtain ⟨V1, hV1⟩ : ∃ V, Hid (w1.alloc (MBox n n (some ⟨g, 0, none⟩) N N) = V) := ⟨_, rfl⟩
  rw [hV1.out] at HFR HR0
  have hW1 := hV1.out
  have HSG : Hid (w.heap.size + 1 ≤ g ∧ g < w1.heap.size) := ⟨by have e2 := HSZ.out; have e3 := hg.out; omega, hrow.lt⟩
  obtain ⟨mb, hmb⟩ : ∃ V, Hid (w1.heap.size = V) := ⟨_, rfl⟩
  obtain ⟨rb, hrb⟩ : ∃ V, Hid (w.heap.size = V) := ⟨_, rfl⟩
  have HNE : Hid (mb ≠ g ∧ rb ≠ g ∧ w.heap.size ≤ g) := by
    have e1 := hmb.out; have e2 := hrb.out; have e4 := HSG.out
    show _ ∧ _ ∧ _
    omega
  rw [hmb.out, hrb.out] at HFR
  have hmb1 := hmb.out
  have hrb1 := hrb.out
  unfold MBox at hW1
  clear hal hrow hb1
  go_wp2_with fail
  go_loopw [6] (fun iv wr => ∃ (i : Nat) (o : Nat → Nat), i ≤ n ∧ iv = .int .i64 i ∧ Hid (wr.rowIs g 57 N (fun k => .float .f64 (o k))) ∧ Hid (∀ a b, a < n → b < n → o (a * n + b) = if a = b ∧ a < i then xs.getD a 0 else 0) ∧ Hid (∀ k, o k < 18446744073709551616) ∧ Hid (FrF w wr mb rb (MBox n n (some ⟨g, 0, none⟩) N N) (MBox 0 0 none 0 0))) (fun iv _ => n - (intOf iv).toNat)
  case atStart => exact ⟨0, fun _ => 0, Nat.zero_le _, rfl, HR0, fun a b _ _ => by rw [if_neg (fun h => absurd h.2 (Nat.not_lt_zero a))], fun _ => by show 0 < 18446744073709551616; decide, HFR⟩
  case round =>
    obtain ⟨i, o, hi, rfl, HR1, HP, HLO, HFW⟩ := hrel
    have n12 := HN12.out
    by_cases hlt : i < n
    · have hiI : (i : Int) < (n : Int) := by omega
      have HI := hid hlt
      obtain ⟨sb, so, rfl, hbl, hcl, hlx⟩ := HA.out.at (by omega)
      have hci := hcl i hlt
      have HXX := hid (hlx i hlt)
      obtain ⟨x, hx⟩ : ∃ x, Hid (xs.getD i 0 = x) := ⟨_, rfl⟩
      have HXV : Hid (x = xs.getD i 0) := hx.out.symm
      rw [hx.out] at hci HXX
      have HQ0 : Hid (FrF w wr.drew mb rb (MBox n n (some ⟨g, 0, none⟩) N N) (MBox 0 0 none 0 0)) := HFW.out.drew
      have HRD : Hid (wr.drew.rowIs g 57 N (fun k => .float .f64 (o k))) := HR1.out.of_block rfl
      have HKS : Hid (∀ W, Hid (FrF w W mb rb (MBox n n (some ⟨g, 0, none⟩) N N) (MBox 0 0 none 0 0)) → (W.cell? ⟨mb, 0, none⟩ = some (.int .i64 n) ∧ W.cell? ⟨mb, 1, none⟩ = some (.int .i64 n) ∧ W.cell? ⟨mb, 2, none⟩ = some (.slice (some ⟨g, 0, none⟩) N N) ∧ W.cell? ⟨sb, so + i, none⟩ = some (.float .f64 x)) ∧ Hid (FrF w W mb rb (MBox n n (some ⟨g, 0, none⟩) N N) (MBox 0 0 none 0 0))) := fun W hW => by
        obtain ⟨a0, a1, a2⟩ := mcells_of hW.out.2.1
        exact ⟨⟨a0, a1, a2, (hW.out.1.cell (p := ⟨sb, so + i, none⟩) hbl).trans hci⟩, hW⟩
      clear hlt hbl hcl hlx hci
      go_wp2_with fail
      refine wp_region_held_drew (S := fun W => (W.cell? ⟨mb, 0, none⟩ = some (.int .i64 n) ∧ W.cell? ⟨mb, 1, none⟩ = some (.int .i64 n) ∧ W.cell? ⟨mb, 2, none⟩ = some (.slice (some ⟨g, 0, none⟩) N N) ∧ W.cell? ⟨sb, so + i, none⟩ = some (.float .f64 x)) ∧ Hid (FrF w W mb rb (MBox n n (some ⟨g, 0, none⟩) N N) (MBox 0 0 none 0 0))) (by kernel_rfl) (HKS.out _ HQ0) (fun hHeld => ?_)
      refine take_at 0 24 (.agg #[.int .i64 n, .int .i64 n, .slice (some ⟨g, 0, none⟩) N N]) rfl rfl (by kernel_rfl) (by kernel_rfl) (by kernel_rfl) (fun _ _ _ h => h) (Or.inl ⟨by rfl, fun w hSw => by (try dsimp only at hSw); go_simp⟩) (by assumption) ?_
      simp only [Act.put, List.setIfInBounds_toArray, List.set_cons_zero, List.set_cons_succ]
      refine take_at 1 25 (.int .i64 i) rfl rfl (by kernel_rfl) (by kernel_rfl) (by kernel_rfl) (fun _ _ _ h => h) (Or.inl ⟨by rfl, fun w hSw => by (try dsimp only at hSw); go_simp⟩) (by assumption) ?_
      simp only [Act.put, List.setIfInBounds_toArray, List.set_cons_zero, List.set_cons_succ]
      refine take_at 2 26 (.int .i64 i) rfl rfl (by kernel_rfl) (by kernel_rfl) (by kernel_rfl) (fun _ _ _ h => h) (Or.inl ⟨by rfl, fun w hSw => by (try dsimp only at hSw); go_simp⟩) (by assumption) ?_
      simp only [Act.put, List.setIfInBounds_toArray, List.set_cons_zero, List.set_cons_succ]
      refine take_at 3 27 (.slice (some ⟨sb, so, none⟩) n ka) rfl rfl (by kernel_rfl) (by kernel_rfl) (by kernel_rfl) (fun _ _ _ h => h) (Or.inl ⟨by rfl, fun w hSw => by (try dsimp only at hSw); go_simp⟩) (by assumption) ?_
      simp only [Act.put, List.setIfInBounds_toArray, List.set_cons_zero, List.set_cons_succ]
      refine take_at 4 28 (.int .i64 i) rfl rfl (by kernel_rfl) (by kernel_rfl) (by kernel_rfl) (fun _ _ _ h => h) (Or.inl ⟨by rfl, fun w hSw => by (try dsimp only at hSw); go_simp⟩) (by assumption) ?_
      simp only [Act.put, List.setIfInBounds_toArray, List.set_cons_zero, List.set_cons_succ]
      refine take_at 5 29 (.pointer (some ⟨sb, so + i, none⟩)) rfl rfl (by kernel_rfl) (by kernel_rfl) (by kernel_rfl) (fun _ _ _ h => h) (Or.inl ⟨by rfl, fun w hSw => by (try dsimp only at hSw); go_simp⟩) (by assumption) ?_
      simp only [Act.put, List.setIfInBounds_toArray, List.set_cons_zero, List.set_cons_succ]
      refine take_at 6 30 (.float .f64 x) rfl rfl (by kernel_rfl) (by kernel_rfl) (by kernel_rfl) (fun _ _ _ h => h) (Or.inl ⟨by rfl, fun w hSw => by (try dsimp only at hSw); go_simp⟩) (by assumption) ?_
      simp only [Act.put, List.setIfInBounds_toArray, List.set_cons_zero, List.set_cons_succ]
      refine wpAnyH_ready (rs := [7]) (by kernel_rfl) (by simp) ?_
      refine AllReadyH.cons (o := _) rfl (fun K hK => ?_) AllReadyH.nil
      go_simp
      refine (HPUT.out _ x i i o HRD.out HI.out HI.out).mono ?_
      rintro e u4 ⟨rfl, hu4⟩
      have hal : Below wr.drew.heap.size wr.drew (wr.drew.alloc (MBox n n (some ⟨g, 0, none⟩) N N)) := (Below.refl _ _).alloc (Nat.le_refl _) _
      have HG4 : Hid (FrF w u4 mb rb (MBox n n (some ⟨g, 0, none⟩) N N) (MBox 0 0 none 0 0)) := by rw [hu4]; exact (HQ0.out.call hal).set HNE.out.1 HNE.out.2.1 HNE.out.2.2 _
      have HR4 : Hid (u4.rowIs g 57 N (fun t => .float .f64 (if t = i * n + i then x else o t))) := by
        rw [hu4]
        refine ((HRD.out.of_block (hal.block _ HRD.out.lt)).set (i * n + i) _).congr (fun t _ => ?_)
        by_cases ht : t = i * n + i <;> simp [ht]
      clear hal hu4
      go_wp2_with fail
      refine hK.out _ _ (HKS.out _ HG4) (fun hHeld2 => ?_)
      clear hK K
      try simp only [Act.put, List.setIfInBounds_toArray, List.set_cons_zero, List.set_cons_succ]
      refine wpAnyH_done (by kernel_rfl) ?_ _
      go_wp2_with fail
      have hi1 := HI.out
      refine ⟨⟨i + 1, fun t => if t = i * n + i then x else o t, by omega, by go_num, HR4, fun a b ha hb => ?_, fun k => ?_, HG4⟩, ?_⟩
      · by_cases h : a * n + b = i * n + i
        · obtain ⟨ea, eb⟩ := place_ne hb hi1 h
          subst ea
          dsimp only
          rw [if_pos h, if_pos ⟨eb.symm, by omega⟩]
          try exact HXV.out
        · dsimp only
          rw [if_neg h, HP.out a b ha hb]
          by_cases hab : a = b ∧ a < i
          · rw [if_pos hab, if_pos ⟨hab.1, by omega⟩]
          · rw [if_neg hab, if_neg (fun hc => hab ⟨hc.1, by
              have : a ≠ i := fun hh => h (by rw [← hc.1, hh])
              omega⟩)]
      · dsimp only
        by_cases h : k = i * n + i
        · rw [if_pos h]; exact HXX.out
        · rw [if_neg h]; exact HLO.out k
      · simp [intOf]; omega
    · obtain rfl : i = n := by omega
      obtain ⟨m0, m1, m2⟩ := mcells_of HFW.out.2.1
      obtain ⟨b0, b1, b2⟩ := mcells_of HFW.out.2.2
      have fz := frzM HFW.out.2.2
      have HFIN := hid (HEND.out _ g o (HR1.out.of_block (StoM.keep (r := i) (c := i) (sa := some ⟨g, 0, none⟩) (n := N) (cap := N) (Ne.symm HNE.out.2.1))) HP.out HLO.out)
      go_wp2_with fail
      exact bodyPost_ret (v := .tuple #[.agg #[.int .i64 i, .int .i64 i, .slice (some ⟨g, 0, none⟩) N N], .int .i64 0]) (by simp [results, Try.results16, go_sem, b0, b1, b2]) rfl ⟨⟨_, _, _, _, _, rfl, HFIN.out⟩, StoM.below HFW.out.1 (by have := hrb.out; omega)⟩
set_option maxRecDepth 4000 in
set_option maxHeartbeats 1000000 in
theorem Diag_bad (sa : Option Addr) (n ka : Nat) (xs : List Nat) (w : World) (ha : FlM w sa n ka xs) (hn : n ≤ 17592186043904) (hz : lstE n xs ≠ 0) : Calls Try.prog 15 #[.slice sa n ka] w fun e w' => e = .returned (NonM (lstE n xs)) ∧ Below w.heap.size w w' := by
  have HCL := hid (fun W (hW : Below w.heap.size w W) => chkL_any sa n ka xs W (ha.below hW) hn)
  obtain ⟨E, hE⟩ : ∃ E, Hid (lstE n xs = E) := ⟨_, rfl⟩
  rw [hE.out] at HCL hz
  rw [hE.out]
  have hne : (E != 0) = true := by simpa using hz
  have HR : Hid ((w.alloc (MBox 0 0 none 0 0)).heap[w.heap.size]? = some (MBox 0 0 none 0 0)) := nblkM _ _
  have HB : Hid (Below w.heap.size w (w.alloc (MBox 0 0 none 0 0))) := (Below.refl _ _).alloc (Nat.le_refl _) _
  obtain ⟨V, hV⟩ : ∃ V, Hid (w.alloc (MBox 0 0 none 0 0) = V) := ⟨_, rfl⟩
  rw [hV.out] at HR HB
  have hV' := hV.out
  unfold MBox at hV'
  unfold NonM
  unfold MV
  clear ha hn hz
  go_enter Try.func15, Try.ntmps15
  go_wp2_with fail
  refine (HCL.out _ HB.out).mono ?_
  rintro e w1 ⟨rfl, hb1⟩
  have HB1 := hid (HB.out.trans (hb1.mono HB.out.size))
  have HR1 := hid (blkM HR.out hb1)
  clear hb1
  go_wp2_with fail
  refine (refused_any E _).mono ?_
  rintro e w2 ⟨rfl, hb2⟩
  have HB2 := hid (HB1.out.trans (hb2.mono HB1.out.size))
  have HR2 := hid (blkM HR1.out hb2)
  obtain ⟨y0, y1, y2⟩ := mcells_of HR2.out
  have fz := frzM HR2.out
  unfold MV
  clear hb2
  go_wp2_with fail
  exact bodyPost_ret (v := .tuple #[MV 0 0 none 0 0, .int .i64 E]) (by simp [results, Try.results15, go_sem, y0, y1, y2, MV]) rfl ⟨rfl, StoM.below HB2.out (Nat.le_refl _)⟩
set_option maxRecDepth 4000 in
set_option maxHeartbeats 1000000 in
theorem rDiag_bad (sa : Option Addr) (n ka : Nat) (xs : List Nat) (w : World) (ha : FlM w sa n ka xs) (hn : n ≤ 17592186043904) (hz : lstE n xs ≠ 0) : Calls Try.prog 16 #[.slice sa n ka] w fun e w' => e = .returned (NonM (lstE n xs)) ∧ Below w.heap.size w w' := by
  have HCL := hid (fun W (hW : Below w.heap.size w W) => rList_any sa n ka xs W (ha.below hW) hn)
  obtain ⟨E, hE⟩ : ∃ E, Hid (lstE n xs = E) := ⟨_, rfl⟩
  rw [hE.out] at HCL hz
  rw [hE.out]
  have hne : (E != 0) = true := by simpa using hz
  have HR : Hid ((w.alloc (MBox 0 0 none 0 0)).heap[w.heap.size]? = some (MBox 0 0 none 0 0)) := nblkM _ _
  have HB : Hid (Below w.heap.size w (w.alloc (MBox 0 0 none 0 0))) := (Below.refl _ _).alloc (Nat.le_refl _) _
  obtain ⟨V, hV⟩ : ∃ V, Hid (w.alloc (MBox 0 0 none 0 0) = V) := ⟨_, rfl⟩
  rw [hV.out] at HR HB
  have hV' := hV.out
  obtain ⟨y0, y1, y2⟩ := mcells_of HR.out
  have fz := frzM HR.out
  unfold MBox at hV'
  unfold NonM
  unfold MV
  clear ha hn hz
  go_enter Try.func16, Try.ntmps16
  go_wp2_with fail
  refine (HCL.out _ HB.out).mono ?_
  rintro e ww ⟨rfl, hw⟩
  rw [hw]
  clear hw
  go_wp2_with fail
  exact bodyPost_ret (v := .tuple #[MV 0 0 none 0 0, .int .i64 E]) (by simp [results, Try.results16, go_sem, y0, y1, y2, MV]) rfl ⟨rfl, StoM.below HB.out (Nat.le_refl _)⟩
theorem Diag_tot (sa : Option Addr) (n ka : Nat) (xs : List Nat) (w : World) (ha : FlM w sa n ka xs) (hn : n ≤ 17592186043904) : Calls Try.prog 15 #[.slice sa n ka] w fun e w' => (∃ X0 X1 X2 X3 X4, e = .returned (.tuple #[.agg #[.int .i64 X0, .int .i64 X1, .slice X2 X3 X4], .int .i64 (lstE n xs)]) ∧ ResM (lstE n xs) n n (diaV xs) w' X0 X1 X2 X3 X4) ∧ Below w.heap.size w w' := by
  by_cases h : lstE n xs = 0
  · rw [h]
    exact Diag_ok sa n ka xs w ha h
  · refine (Diag_bad sa n ka xs w ha hn h).mono ?_
    rintro e w' ⟨rfl, hbb⟩
    obtain ⟨X0, X1, X2, X3, X4, e1, e2⟩ := res_non n n (diaV xs) _ w' h
    exact ⟨⟨X0, X1, X2, X3, X4, by rw [e1], e2⟩, hbb⟩
theorem rDiag_tot (sa : Option Addr) (n ka : Nat) (xs : List Nat) (w : World) (ha : FlM w sa n ka xs) (hn : n ≤ 17592186043904) : Calls Try.prog 16 #[.slice sa n ka] w fun e w' => (∃ X0 X1 X2 X3 X4, e = .returned (.tuple #[.agg #[.int .i64 X0, .int .i64 X1, .slice X2 X3 X4], .int .i64 (lstE n xs)]) ∧ ResM (lstE n xs) n n (diaV xs) w' X0 X1 X2 X3 X4) ∧ Below w.heap.size w w' := by
  by_cases h : lstE n xs = 0
  · rw [h]
    exact rDiag_ok sa n ka xs w ha h
  · refine (rDiag_bad sa n ka xs w ha hn h).mono ?_
    rintro e w' ⟨rfl, hbb⟩
    obtain ⟨X0, X1, X2, X3, X4, e1, e2⟩ := res_non n n (diaV xs) _ w' h
    exact ⟨⟨X0, X1, X2, X3, X4, by rw [e1], e2⟩, hbb⟩
end Go.Proofs.Ytokeialkeadanaa
