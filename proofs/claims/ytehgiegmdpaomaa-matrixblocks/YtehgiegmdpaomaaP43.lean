
/- matrix.Beside of any two. (Written by mkndd.py.) -/
import Derived.Test.YtehgiegmdpaomaaP42
import Derived.Test.YtehgiegmdpaomaaP28
namespace Go.Proofs.Ytehgiegmdpaomaa
open Go.RowKit Go.IntWalk

set_option maxRecDepth 4000 in
set_option maxHeartbeats 2000000 in
theorem fill_Beside (r c : Nat) (hr : r ≤ 100) (hc : c ≤ 100) (p0 p1 : Addr) (P : Nat → Nat → Nat → Prop) (w : World)
    (hF : ∀ W i j, Below w.heap.size w W → i < r → j < c → Calls Try.prog 27 #[.int .i64 (i : Nat), .int .i64 (j : Nat), .pointer (some p0), .pointer (some p1)] W fun e w' => ∃ x : Nat, e = .returned (.float .f64 x) ∧ (P i j x ∧ x < 18446744073709551616) ∧ Below W.heap.size W w') :
    Calls Try.prog 26 #[.int .i64 r, .int .i64 c, .func (.func 27) #[] #[.pointer (some p0), .pointer (some p1)]] w fun e w' => FillR P r c (r * c) w.heap.size e w' ∧ Below w.heap.size w w' := by
  have HF := hid hF
  have hst := fstoreM
  have hpp : r * c ≤ 10000 := Nat.mul_le_mul hr hc
  have HZ := hid (fun W => zeros_any r c hr hc W)
  have HPL : Hid (∀ i j, i < r → j < c → i * c + j < r * c) := fun i j hi hj => place_lt hi hj
  obtain ⟨N, hN⟩ : ∃ p, Hid (r * c = p) := ⟨_, rfl⟩
  rw [hN.out] at hpp HZ HPL ⊢
  clear hF
  go_enter Try.func26, Try.ntmps26
  go_wp2_with fail
  refine (HZ.out _).mono ?_
  rintro e w1 ⟨rfl, h1, h2⟩
  rw [World.size_alloc] at h1 ⊢
  have HSZ : Hid (w.heap.size + 1 + 1 < w1.heap.size) := h1.lt
  have hal : Below w1.heap.size w1 (w1.alloc (MBox r c (some ⟨w.heap.size + 1 + 1, 0, none⟩) N N)) := (Below.refl _ _).alloc (Nat.le_refl _) _
  have HFR : Hid (FrF w (w1.alloc (MBox r c (some ⟨w.heap.size + 1 + 1, 0, none⟩) N N)) w1.heap.size w.heap.size (MBox r c (some ⟨w.heap.size + 1 + 1, 0, none⟩) N N) (MBox 0 0 none 0 0)) :=
    ⟨(((Below.refl _ _).alloc (Nat.le_refl _) _).trans (h2.mono (by simp))).alloc (by have := HSZ.out; omega) _, nblkM _ _, (hal.block _ (by have := HSZ.out; omega)).trans ((h2.block _ (by simp)).trans (nblkM _ _))⟩
  have HR0 : Hid ((w1.alloc (MBox r c (some ⟨w.heap.size + 1 + 1, 0, none⟩) N N)).rowIs (w.heap.size + 1 + 1) 42 N (fun _ => .float .f64 0)) := h1.of_block (hal.block _ HSZ.out)
  obtain ⟨V1, hV1⟩ : ∃ V, Hid (w1.alloc (MBox r c (some ⟨w.heap.size + 1 + 1, 0, none⟩) N N) = V) := ⟨_, rfl⟩
  rw [hV1.out] at HFR HR0
  have hW1 := hV1.out
  obtain ⟨mb, hmb⟩ : ∃ V, Hid (w1.heap.size = V) := ⟨_, rfl⟩
  obtain ⟨rb, hrb⟩ : ∃ V, Hid (w.heap.size = V) := ⟨_, rfl⟩
  obtain ⟨g, hg⟩ : ∃ V, Hid (rb + 1 + 1 = V) := ⟨_, rfl⟩
  have HNE : Hid (mb ≠ g ∧ rb ≠ g ∧ w.heap.size ≤ g) := by
    have e1 := hmb.out; have e2 := hrb.out; have e3 := hg.out; have e4 := HSZ.out
    show _ ∧ _ ∧ _
    omega
  rw [hmb.out, hrb.out] at HFR
  rw [hrb.out] at HR0 hW1 ⊢
  rw [hg.out] at HFR HR0 hW1 ⊢
  have hmb1 := hmb.out
  have hrb1 := hrb.out
  unfold MBox at hW1
  unfold MV
  clear h1 h2 hal HZ
  go_wp2_with fail
  go_loopw [14] (fun iv wr => ∃ (i : Nat) (o : Nat → Nat), i ≤ r ∧ iv = .int .i64 i ∧ Hid (wr.rowIs g 42 N (fun k => .float .f64 (o k))) ∧ Hid (∀ a b, a < i → b < c → P a b (o (a * c + b)) ∧ o (a * c + b) < 18446744073709551616) ∧ Hid (FrF w wr mb rb (MBox r c (some ⟨g, 0, none⟩) N N) (MBox 0 0 none 0 0))) (fun iv _ => r - (intOf iv).toNat)
  case atStart => exact ⟨0, fun _ => 0, Nat.zero_le _, rfl, HR0, fun a b ha => absurd ha (Nat.not_lt_zero a), HFR⟩
  case round =>
    obtain ⟨i, o, hi, rfl, HR, HP, HFW⟩ := hrel
    by_cases hlt : i < r
    · have hiI : (i : Int) < (r : Int) := by omega
      have HI := hid hlt
      clear hlt
      go_wp2_with fail
      go_loopw [18] (fun jv wr2 => ∃ (j : Nat) (o2 : Nat → Nat), j ≤ c ∧ jv = .int .i64 j ∧ Hid (wr2.rowIs g 42 N (fun k => .float .f64 (o2 k))) ∧ Hid (∀ a b, (a < i ∨ (a = i ∧ b < j)) → b < c → P a b (o2 (a * c + b)) ∧ o2 (a * c + b) < 18446744073709551616) ∧ Hid (FrF w wr2 mb rb (MBox r c (some ⟨g, 0, none⟩) N N) (MBox 0 0 none 0 0))) (fun jv _ => c - (intOf jv).toNat)
      case atStart => exact ⟨0, o, Nat.zero_le _, rfl, HR, fun a b hab hb => HP.out a b (by rcases hab with h | ⟨_, h⟩ <;> omega) hb, HFW⟩
      case round =>
        obtain ⟨j, o2, hj, rfl, HR2, HP2, HFW2⟩ := hrel
        by_cases hl2 : j < c
        · have hjI : (j : Int) < (c : Int) := by omega
          have hkN := HPL.out i j HI.out hl2
          have hp : i * c ≤ 10000 := by omega
          have e1 : (i : Int) * (c : Int) = ((i * c : Nat) : Int) := by simp
          obtain ⟨p, hp'⟩ : ∃ p, Hid (i * c = p) := ⟨_, rfl⟩
          rw [hp'.out] at e1 hp hkN
          have e2 : (p : Int) + (j : Int) = ((p + j : Nat) : Int) := by simp
          obtain ⟨k, hk'⟩ : ∃ k, Hid (p + j = k) := ⟨_, rfl⟩
          have e3 := wrapM p (by omega)
          have e4 := wrapM k (by rw [← hk'.out]; omega)
          rw [hk'.out] at e2 hkN
          have k0 : (0 : Int) ≤ (k : Int) := by omega
          have k1 : (k : Int) < (N : Int) := by omega
          have HCALL := hid (HF.out wr.drew i j HFW2.out.drew.1 HI.out hl2)
          have HS0 : Hid (wr.drew.cell? ⟨mb, 2, none⟩ = some (.slice (some ⟨g, 0, none⟩) N N)) := (mcells_of HFW2.out.drew.2.1).2.2
          have HJ := hid hl2
          have HKN := hid hkN
          clear hl2 hkN hp
          go_wp2_with fail
          refine wp_region_held_drew (S := fun W => W.cell? ⟨mb, 2, none⟩ = some (.slice (some ⟨g, 0, none⟩) N N)) (by kernel_rfl) HS0.out (fun hHeld => ?_)
          refine take_at 0 21 (.pointer (some ⟨mb, 2, none⟩)) rfl rfl (by kernel_rfl) (by kernel_rfl) (by kernel_rfl) (fun _ _ _ h => h) (Or.inl ⟨by rfl, fun w hSw => by (try dsimp only at hSw); go_simp⟩) (by assumption) ?_
          simp only [Act.put, List.setIfInBounds_toArray, List.set_cons_zero, List.set_cons_succ]
          refine take_at 1 22 (.slice (some ⟨g, 0, none⟩) N N) rfl rfl (by kernel_rfl) (by kernel_rfl) (by kernel_rfl) (fun _ _ _ h => h) (Or.inl ⟨by rfl, fun w hSw => by (try dsimp only at hSw); go_simp⟩) (by assumption) ?_
          simp only [Act.put, List.setIfInBounds_toArray, List.set_cons_zero, List.set_cons_succ]
          refine take_at 2 23 (.int .i64 i) rfl rfl (by kernel_rfl) (by kernel_rfl) (by kernel_rfl) (fun _ _ _ h => h) (Or.inl ⟨by rfl, fun w hSw => by (try dsimp only at hSw); go_simp⟩) (by assumption) ?_
          simp only [Act.put, List.setIfInBounds_toArray, List.set_cons_zero, List.set_cons_succ]
          refine take_at 3 24 (.int .i64 c) rfl rfl (by kernel_rfl) (by kernel_rfl) (by kernel_rfl) (fun _ _ _ h => h) (Or.inl ⟨by rfl, fun w hSw => by (try dsimp only at hSw); go_simp⟩) (by assumption) ?_
          simp only [Act.put, List.setIfInBounds_toArray, List.set_cons_zero, List.set_cons_succ]
          refine take_at 4 25 (.int .i64 p) rfl rfl (by kernel_rfl) (by kernel_rfl) (by kernel_rfl) (fun _ _ _ h => h) (Or.inl ⟨by rfl, fun w hSw => by (try dsimp only at hSw); go_simp⟩) (by assumption) ?_
          simp only [Act.put, List.setIfInBounds_toArray, List.set_cons_zero, List.set_cons_succ]
          refine take_at 5 26 (.int .i64 j) rfl rfl (by kernel_rfl) (by kernel_rfl) (by kernel_rfl) (fun _ _ _ h => h) (Or.inl ⟨by rfl, fun w hSw => by (try dsimp only at hSw); go_simp⟩) (by assumption) ?_
          simp only [Act.put, List.setIfInBounds_toArray, List.set_cons_zero, List.set_cons_succ]
          refine take_at 6 27 (.int .i64 k) rfl rfl (by kernel_rfl) (by kernel_rfl) (by kernel_rfl) (fun _ _ _ h => h) (Or.inl ⟨by rfl, fun w hSw => by (try dsimp only at hSw); go_simp⟩) (by assumption) ?_
          simp only [Act.put, List.setIfInBounds_toArray, List.set_cons_zero, List.set_cons_succ]
          refine take_at 7 28 (.func (.func 27) #[] #[.pointer (some p0), .pointer (some p1)]) rfl rfl (by kernel_rfl) (by kernel_rfl) (by kernel_rfl) (fun _ _ _ h => h) (Or.inl ⟨by rfl, fun w hSw => by (try dsimp only at hSw); go_simp⟩) (by assumption) ?_
          simp only [Act.put, List.setIfInBounds_toArray, List.set_cons_zero, List.set_cons_succ]
          refine take_at 8 29 (.int .i64 i) rfl rfl (by kernel_rfl) (by kernel_rfl) (by kernel_rfl) (fun _ _ _ h => h) (Or.inl ⟨by rfl, fun w hSw => by (try dsimp only at hSw); go_simp⟩) (by assumption) ?_
          simp only [Act.put, List.setIfInBounds_toArray, List.set_cons_zero, List.set_cons_succ]
          refine take_at 9 30 (.int .i64 j) rfl rfl (by kernel_rfl) (by kernel_rfl) (by kernel_rfl) (fun _ _ _ h => h) (Or.inl ⟨by rfl, fun w hSw => by (try dsimp only at hSw); go_simp⟩) (by assumption) ?_
          simp only [Act.put, List.setIfInBounds_toArray, List.set_cons_zero, List.set_cons_succ]
          refine wpAnyH_ready (rs := [10]) (by kernel_rfl) (by simp) ?_
          refine AllReadyH.cons (o := _) rfl (fun K hK => ?_) AllReadyH.nil
          go_simp
          refine HCALL.out.mono ?_
          rintro e u1 ⟨x, rfl, hx, hb1⟩
          have HX := hid hx
          have HFU := hid (HFW2.out.drew.call hb1)
          have HRU : Hid (u1.rowIs g 42 N (fun k => .float .f64 (o2 k))) := (HR2.out.of_block rfl).of_block (hb1.block _ HR2.out.lt)
          have HSU : Hid (u1.cell? ⟨mb, 2, none⟩ = some (.slice (some ⟨g, 0, none⟩) N N)) := (mcells_of HFU.out.2.1).2.2
          clear hx hb1
          go_wp2_with fail
          refine hK.out _ _ HSU.out (fun hHeld1 => ?_)
          clear hK K
          try simp only [Act.put, List.setIfInBounds_toArray, List.set_cons_zero, List.set_cons_succ]
          refine take_at 11 32 (.pointer (some ⟨g, k, none⟩)) rfl rfl (by kernel_rfl) (by kernel_rfl) (by kernel_rfl) (fun _ _ _ h => h) (Or.inl ⟨by rfl, fun w hSw => by (try dsimp only at hSw); go_simp⟩) (by assumption) ?_
          simp only [Act.put, List.setIfInBounds_toArray, List.set_cons_zero, List.set_cons_succ]
          have cx := HRU.out.cell (i := k) HKN.out
          have fx := HRU.out.frozen k
          have HSV : Hid ((u1.setCell ⟨g, k, none⟩ (.float .f64 x)).cell? ⟨mb, 2, none⟩ = some (.slice (some ⟨g, 0, none⟩) N N)) := (mcells_of (HFU.out.set HNE.out.1 HNE.out.2.1 HNE.out.2.2 _).2.1).2.2
          refine wpAnyH_ready (rs := [12]) (by kernel_rfl) (by simp) ?_
          refine AllReadyH.cons (o := _) rfl (fun K hK => ?_) AllReadyH.nil
          go_simp
          go_wp2_with fail
          refine hK.out _ _ HSV.out (fun hHeld2 => ?_)
          clear hK K
          try simp only [Act.put, List.setIfInBounds_toArray, List.set_cons_zero, List.set_cons_succ]
          refine wpAnyH_done (by kernel_rfl) ?_ _
          go_wp2_with fail
          have hkk : i * c + j = k := by rw [hp'.out, hk'.out]
          have hj1 := HJ.out
          refine ⟨⟨j + 1, fun t => if t = k then x else o2 t, by omega, by go_num, ?_, fun a b hab hb => ?_, HFU.out.set HNE.out.1 HNE.out.2.1 HNE.out.2.2 _⟩, ?_⟩
          · refine (HRU.out.set k _).congr (fun t _ => ?_)
            by_cases ht : t = k <;> simp [ht]
          · by_cases h : a * c + b = k
            · obtain ⟨ea, eb⟩ := place_ne hb hj1 (h.trans hkk.symm)
              subst ea eb
              dsimp only
              rw [if_pos h]
              exact HX.out
            · dsimp only
              rw [if_neg h]
              refine HP2.out a b ?_ hb
              rcases hab with h1 | ⟨h1, h2⟩
              · exact Or.inl h1
              · have : b ≠ j := fun hc => h (by rw [h1, hc]; exact hkk)
                exact Or.inr ⟨h1, by omega⟩
          · simp [intOf]; omega
        · obtain rfl : j = c := by omega
          go_wp2_with fail
          have hi1 := HI.out
          refine ⟨⟨i + 1, o2, by omega, by go_num, HR2, fun a b ha hb => HP2.out a b (by omega) hb, HFW2⟩, ?_⟩
          simp [intOf]; omega
    · obtain rfl : i = r := by omega
      obtain ⟨m0, m1, m2⟩ := mcells_of HFW.out.2.1
      obtain ⟨b0, b1, b2⟩ := mcells_of HFW.out.2.2
      have fz : ∀ o, wr.frozen? ⟨rb, o, none⟩ = false := fun o => by have := HFW.out.2.2; unfold MBox at this; simp [World.frozen?, this]
      go_wp2_with fail
      refine bodyPost_ret (v := MV i c (some ⟨g, 0, none⟩) N N) (by simp [results, Try.results26, go_sem, b0, b1, b2, MV]) rfl ⟨⟨g, o, rfl, by have := hg.out; omega, ?_, HP.out⟩, ?_⟩
      · exact ((HR.out.of_block (set_keepM (Ne.symm HNE.out.2.1) _)).of_block (set_keepM (Ne.symm HNE.out.2.1) _)).of_block (set_keepM (Ne.symm HNE.out.2.1) _)
      · exact ((HFW.out.1.setCell (p := ⟨rb, 0, none⟩) (by have := hrb.out; show w.heap.size ≤ rb; omega) _).setCell (p := ⟨rb, 1, none⟩) (by have := hrb.out; show w.heap.size ≤ rb; omega) _).setCell (p := ⟨rb, 2, none⟩) (by have := hrb.out; show w.heap.size ≤ rb; omega) _
set_option maxRecDepth 4000 in
set_option maxHeartbeats 1000000 in
theorem Beside_bad (r c r2 c2 : Int) (n n2 : Nat) (sa sb : Option Addr) (ka kb : Nat) (xs ys : List Nat) (w : World) (ha : FlM w sa n ka xs) (hb : FlM w sb n2 kb ys) (hn : n ≤ 17592186043904) (hn2 : n2 ≤ 17592186043904) (hE : first2 (chkM r c n xs) (chkM r2 c2 n2 ys) ≠ 0) :
    Calls Try.prog 9 #[MV r c sa n ka, MV r2 c2 sb n2 kb] w fun e w' => e = .returned (NonM (first2 (chkM r c n xs) (chkM r2 c2 n2 ys))) ∧ Below w.heap.size w w' := by
  obtain ⟨t1, t2, t3, t4, t5⟩ := three_b w (MBox r c sa n ka) (MBox r2 c2 sb n2 kb) (MBox 0 0 none 0 0)
  have HCB := hid (fun W (hW : Below w.heap.size w W) => checkBoth_any r c r2 c2 n n2 sa sb ka kb _ _ W (ha.below hW) (hb.below hW) hn hn2)
  obtain ⟨E, hEE⟩ : ∃ E, Hid (first2 (chkM r c n xs) (chkM r2 c2 n2 ys) = E) := ⟨_, rfl⟩
  rw [hEE.out] at HCB hE
  rw [hEE.out]
  have hne : (E != 0) = true := by simpa using hE
  obtain ⟨V, hV⟩ : ∃ V, Hid (((w.alloc (MBox r c sa n ka)).alloc (MBox r2 c2 sb n2 kb)).alloc (MBox 0 0 none 0 0) = V) := ⟨_, rfl⟩
  rw [hV.out] at t1 t2 t3 t4 t5
  have hV' := hV.out
  have HB := hid t4
  have HR := hid t3
  obtain ⟨x0, x1, x2⟩ := mcells_of t1
  obtain ⟨v0, v1, v2⟩ := mcells_of t2
  unfold MBox at hV'
  unfold NonM
  unfold MV at HCB ⊢
  clear t1 t2 t3 t4 t5 ha hb hn hn2 hE
  go_enter Try.func9, Try.ntmps9
  go_wp2_with fail
  refine (HCB.out _ HB.out).mono ?_
  rintro e w1 ⟨rfl, hb1⟩
  have HB1 := hid (HB.out.trans (hb1.mono HB.out.size))
  have HR1 := hid (blkM HR.out hb1)
  clear hb1
  go_wp2_with fail
  refine (refused_any E _).mono ?_
  rintro e w2 ⟨rfl, hb2⟩
  have HB2 := hid (HB1.out.trans (hb2.mono HB1.out.size))
  have HR2 := hid (blkM HR1.out hb2)
  obtain ⟨r0, r1, r2⟩ := mcells_of HR2.out
  have fz := frzM HR2.out
  unfold MV
  clear hb2
  go_wp2_with fail
  exact bodyPost_ret (v := .tuple #[MV 0 0 none 0 0, .int .i64 E]) (by simp [results, Try.results9, go_sem, r0, r1, r2, MV]) rfl ⟨rfl, StoM.below HB2.out (by omega)⟩
set_option maxRecDepth 4000 in
set_option maxHeartbeats 1000000 in
theorem Beside_shape (r c r2 c2 n n2 : Nat) (sa sb : Option Addr) (ka kb : Nat) (f f2 : Nat → Nat) (w : World) (ha : Gd w r c sa n ka f) (hb : Gd w r2 c2 sb n2 kb f2) (hs : r ≠ r2) :
    Calls Try.prog 9 #[MV r c sa n ka, MV r2 c2 sb n2 kb] w fun e w' => e = .returned (NonM 3) ∧ Below w.heap.size w w' := by
  obtain ⟨t1, t2, t3, t4, t5⟩ := three_b w (MBox r c sa n ka) (MBox r2 c2 sb n2 kb) (MBox 0 0 none 0 0)
  have HCB := hid (fun W (hW : Below w.heap.size w W) => checkBoth_any r c r2 c2 n n2 sa sb ka kb _ _ W ((ha.below hW).2.2.2.1.fl) ((hb.below hW).2.2.2.1.fl) (by have := ha.le; omega) (by have := hb.le; omega))
  rw [ha.chk, hb.chk, show first2 0 0 = 0 by rfl] at HCB
  have hne : ((r : Int) != (r2 : Int)) = true := by simp; omega
  obtain ⟨V, hV⟩ : ∃ V, Hid (((w.alloc (MBox r c sa n ka)).alloc (MBox r2 c2 sb n2 kb)).alloc (MBox 0 0 none 0 0) = V) := ⟨_, rfl⟩
  rw [hV.out] at t1 t2 t3 t4 t5
  have hV' := hV.out
  have HB := hid t4
  have HR := hid t3
  have HA0 := hid t1
  have HA1 := hid t2
  obtain ⟨x0, x1, x2⟩ := mcells_of t1
  obtain ⟨v0, v1, v2⟩ := mcells_of t2
  unfold MBox at hV'
  unfold NonM
  unfold MV at HCB ⊢
  clear t1 t2 t3 t4 t5 ha hb hs
  go_enter Try.func9, Try.ntmps9
  go_wp2_with fail
  refine (HCB.out _ HB.out).mono ?_
  rintro e w1 ⟨rfl, hb1⟩
  have HB1 := hid (HB.out.trans (hb1.mono HB.out.size))
  have HR1 := hid (blkM HR.out hb1)
  obtain ⟨x0, x1, x2⟩ := mcells_of (blkM HA0.out hb1)
  obtain ⟨v0, v1, v2⟩ := mcells_of (blkM HA1.out hb1)
  clear hb1
  go_wp2_with fail
  refine (refused_any 3 _).mono ?_
  rintro e w2 ⟨rfl, hb2⟩
  have HB2 := hid (HB1.out.trans (hb2.mono HB1.out.size))
  have HR2 := hid (blkM HR1.out hb2)
  obtain ⟨r0, r1, r2⟩ := mcells_of HR2.out
  have fz := frzM HR2.out
  unfold MV
  clear hb2
  go_wp2_with fail
  exact bodyPost_ret (v := .tuple #[MV 0 0 none 0 0, .int .i64 3]) (by simp [results, Try.results9, go_sem, r0, r1, r2, MV]) rfl ⟨rfl, StoM.below HB2.out (by omega)⟩
set_option maxRecDepth 4000 in
set_option maxHeartbeats 1000000 in
theorem Beside_range (r c c2 n n2 : Nat) (sa sb : Option Addr) (ka kb : Nat) (f f2 : Nat → Nat) (w : World) (ha : Gd w r c sa n ka f) (hb : Gd w r c2 sb n2 kb f2) (hs : 12 < c + c2) :
    Calls Try.prog 9 #[MV r c sa n ka, MV r c2 sb n2 kb] w fun e w' => e = .returned (NonM 1) ∧ Below w.heap.size w w' := by
  obtain ⟨t1, t2, t3, t4, t5⟩ := three_b w (MBox r c sa n ka) (MBox r c2 sb n2 kb) (MBox 0 0 none 0 0)
  have HCB := hid (fun W (hW : Below w.heap.size w W) => checkBoth_any r c r c2 n n2 sa sb ka kb _ _ W ((ha.below hW).2.2.2.1.fl) ((hb.below hW).2.2.2.1.fl) (by have := ha.le; omega) (by have := hb.le; omega))
  rw [ha.chk, hb.chk, show first2 0 0 = 0 by rfl] at HCB
  have hne : ((r : Int) != (r : Int)) = false := by simp
  have l2 := ha.2.1
  have l3 := hb.2.1
  obtain ⟨cs, hcs⟩ : ∃ t : Int, Hid ((c : Int) + (c2 : Int) = t) := ⟨_, rfl⟩
  have cs' := hcs.out
  have m1 : -9223372036854775808 ≤ cs := by omega
  have m2 : cs ≤ 9223372036854775807 := by omega
  have HIS := hid (fun W => isSide_any cs W)
  rw [show sideB cs = false from by unfold sideB; simp; omega] at HIS
  obtain ⟨V, hV⟩ : ∃ V, Hid (((w.alloc (MBox r c sa n ka)).alloc (MBox r c2 sb n2 kb)).alloc (MBox 0 0 none 0 0) = V) := ⟨_, rfl⟩
  rw [hV.out] at t1 t2 t3 t4 t5
  have hV' := hV.out
  have HB := hid t4
  have HR := hid t3
  have HA0 := hid t1
  have HA1 := hid t2
  obtain ⟨x0, x1, x2⟩ := mcells_of t1
  obtain ⟨v0, v1, v2⟩ := mcells_of t2
  unfold MBox at hV'
  unfold NonM
  unfold MV at HCB ⊢
  clear t1 t2 t3 t4 t5 ha hb hs l2 l3
  go_enter Try.func9, Try.ntmps9
  go_wp2_with fail
  refine (HCB.out _ HB.out).mono ?_
  rintro e w1 ⟨rfl, hb1⟩
  have HB1 := hid (HB.out.trans (hb1.mono HB.out.size))
  have HR1 := hid (blkM HR.out hb1)
  obtain ⟨x0, x1, x2⟩ := mcells_of (blkM HA0.out hb1)
  obtain ⟨v0, v1, v2⟩ := mcells_of (blkM HA1.out hb1)
  clear hb1
  go_wp2_with fail
  refine (HIS.out _).mono ?_
  rintro e ww ⟨rfl, hw⟩
  rw [hw]
  clear hw
  go_wp2_with fail
  refine (refused_any 1 _).mono ?_
  rintro e w2 ⟨rfl, hb2⟩
  have HB2 := hid (HB1.out.trans (hb2.mono HB1.out.size))
  have HR2 := hid (blkM HR1.out hb2)
  obtain ⟨r0, r1, r2⟩ := mcells_of HR2.out
  have fz := frzM HR2.out
  unfold MV
  clear hb2
  go_wp2_with fail
  exact bodyPost_ret (v := .tuple #[MV 0 0 none 0 0, .int .i64 1]) (by simp [results, Try.results9, go_sem, r0, r1, r2, MV]) rfl ⟨rfl, StoM.below HB2.out (by omega)⟩
set_option maxRecDepth 4000 in
theorem clo_Beside (i j p0 p1 ra ca cb : Nat) (sa sb : Option Addr) (na ka nb kb : Nat) (f g : Nat → Nat) (w : World) (h0 : w.heap[p0]? = some (MBox ra ca sa na ka)) (h1 : w.heap[p1]? = some (MBox ra cb sb nb kb)) (ha : FnM w sa na ka f) (hb : FnM w sb nb kb g) (hca : ca ≤ 12) (hcb : cb ≤ 12) (hra : ra ≤ 12) (hi : i < ra) (hj : j < ca + cb) (hna : na = ra * ca) (hnb : nb = ra * cb) :
    Calls Try.prog 27 #[.int .i64 i, .int .i64 j, .pointer (some ⟨p0, 0, none⟩), .pointer (some ⟨p1, 0, none⟩)] w fun e w' => ∃ x : Nat, e = .returned (.float .f64 x) ∧ ((x = if j < ca then f (i * ca + j) else g (i * cb + (j - ca))) ∧ x < 18446744073709551616) ∧ Below w.heap.size w w' := by
  obtain ⟨a0, a1, a2⟩ := mcells_of h0
  obtain ⟨b0, b1, b2⟩ := mcells_of h1
  by_cases h : j < ca
  · have hk : i * ca + j < na := by rw [hna]; exact place_lt hi h
    have HAT := hid (at_fn ra sa ca na ka i j f w ha (by omega) (by omega) (by omega) hk)
    have HLT := hid (fn_lt ha _ hk)
    have hjI : (j : Int) < (ca : Int) := by omega
    unfold MV at HAT
    rw [if_pos h]
    clear h0 h1 ha hb hca hcb hra hi hj hna hnb h hk
    go_enter Try.func27, Try.ntmps27
    go_wp2_with fail
    refine HAT.out.mono ?_
    rintro e w1 ⟨rfl, hb1⟩
    have HB1 := hid hb1
    clear hb1
    go_wp2_with fail
    go_ret
    exact ⟨_, rfl, ⟨rfl, HLT.out⟩, HB1.out⟩
  · obtain ⟨d, hd⟩ : ∃ d, j - ca = d := ⟨_, rfl⟩
    have hk : i * cb + d < nb := by rw [hnb]; exact place_lt hi (by omega)
    have HAT := hid (at_fn ra sb cb nb kb i d g w hb (by omega) (by omega) (by omega) hk)
    have HLT := hid (fn_lt hb _ hk)
    have hjI : ¬ (j : Int) < (ca : Int) := by omega
    have hdI : (j : Int) - (ca : Int) = (d : Int) := by omega
    have hdw : IntKind.i64.wrap ((j : Int) - (ca : Int)) = (d : Int) := by rw [hdI]; exact IntWalk.i64_in _ (by omega)
    have hdv : IntKind.i64.wrap (d : Int) = (d : Int) := IntWalk.i64_in _ (by omega)
    unfold MV at HAT
    rw [if_neg h, hd]
    clear h0 h1 ha hb hca hcb hra hi hj hna hnb h hk hd
    go_enter Try.func27, Try.ntmps27
    go_wp2_with fail
    refine HAT.out.mono ?_
    rintro e w1 ⟨rfl, hb1⟩
    have HB1 := hid hb1
    clear hb1
    go_wp2_with fail
    go_ret
    exact ⟨_, rfl, ⟨rfl, HLT.out⟩, HB1.out⟩
end Go.Proofs.Ytehgiegmdpaomaa
