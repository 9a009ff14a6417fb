
/- matrix: fill, of each of its closures. (Written by mkmx.py.) -/
import Derived.Test.YthakhmnlpmfdgaaP19
import Derived.Test.YthakhmnlpmfdgaaP4
namespace Go.Proofs.Ythakhmnlpmfdgaa
open Go.RowKit Go.IntWalk

/-- What fill hands back: a new row, each place as it was told. -/
def FillR (P : Nat → Nat → Nat → Prop) (r c N B : Nat) (e : Ending) (w' : World) : Prop := ∃ (g : Nat) (o : Nat → Nat), e = .returned (MV r c (some ⟨g, 0, none⟩) N N) ∧ B ≤ g ∧ w'.rowIs g 28 N (fun k => .float .f64 (o k)) ∧ ∀ i j, i < r → j < c → P i j (o (i * c + j)) ∧ o (i * c + j) < 18446744073709551616
theorem place_lt {r c i j : Nat} (hi : i < r) (hj : j < c) : i * c + j < r * c := by
  have h : (i + 1) * c ≤ r * c := Nat.mul_le_mul_right c hi
  rw [Nat.add_mul, Nat.one_mul] at h
  omega
theorem place_ne {c i j i2 j2 : Nat} (hj : j < c) (hj2 : j2 < c) (h : i * c + j = i2 * c + j2) : i = i2 ∧ j = j2 := by
  have e : i = i2 := by
    have h1 : (i * c + j) / c = i := by rw [Nat.mul_comm, Nat.mul_add_div (by omega), Nat.div_eq_of_lt hj]; rfl
    have h2 : (i2 * c + j2) / c = i2 := by rw [Nat.mul_comm, Nat.mul_add_div (by omega), Nat.div_eq_of_lt hj2]; rfl
    rw [← h1, ← h2, h]
  subst e
  exact ⟨rfl, by omega⟩
theorem set_keepM {W : World} {a b o : Nat} (hab : a ≠ b) (x : Value) : (W.setCell ⟨b, o, none⟩ x).heap[a]? = W.heap[a]? := by
  simp [World.setCell, Array.getElem?_modify, Ne.symm hab]
/-- Two variables as they were laid. -/
def FrF (w W : World) (mb rb : Nat) (om or : Obj) : Prop := Below w.heap.size w W ∧ W.heap[mb]? = some om ∧ W.heap[rb]? = some or
theorem FrF.drew {w W : World} {mb rb : Nat} {om or : Obj} (h : FrF w W mb rb om or) : FrF w W.drew mb rb om or := ⟨h.1.drew, h.2.1, h.2.2⟩
theorem FrF.call {w W W' : World} {mb rb : Nat} {om or : Obj} (h : FrF w W mb rb om or) (hb : Below W.heap.size W W') : FrF w W' mb rb om or :=
  ⟨h.1.trans (hb.mono h.1.size), (hb.block _ (Array.getElem?_eq_some_iff.1 h.2.1).1).trans h.2.1, (hb.block _ (Array.getElem?_eq_some_iff.1 h.2.2).1).trans h.2.2⟩
theorem FrF.set {w W : World} {mb rb g k : Nat} {om or : Obj} (h : FrF w W mb rb om or) (h1 : mb ≠ g) (h2 : rb ≠ g) (hg : w.heap.size ≤ g) (x : Value) : FrF w (W.setCell ⟨g, k, none⟩ x) mb rb om or :=
  ⟨h.1.setCell (p := ⟨g, k, none⟩) hg _, (set_keepM h1 x).trans h.2.1, (set_keepM h2 x).trans h.2.2⟩
theorem mset {W : World} {b : Nat} {r c r2 c2 : Int} {sa sa2 : Option Addr} {n n2 cap cap2 : Nat} (h : W.heap[b]? = some (MBox r c sa n cap)) : (((W.setCell ⟨b, 0, none⟩ (.int .i64 r2)).setCell ⟨b, 1, none⟩ (.int .i64 c2)).setCell ⟨b, 2, none⟩ (.slice sa2 n2 cap2)).heap[b]? = some (MBox r2 c2 sa2 n2 cap2) := by
  unfold MBox at h ⊢
  simp [World.setCell, Array.getElem?_modify, h]
set_option maxRecDepth 4000 in
set_option maxHeartbeats 2000000 in
theorem fill_turned (r c : Nat) (hr : r ≤ 100) (hc : c ≤ 100) (p0 : Addr) (P : Nat → Nat → Nat → Prop) (w : World)
    (hF : ∀ W i j, Below w.heap.size w W → i < r → j < c → Calls Try.prog 94 #[.int .i64 (i : Nat), .int .i64 (j : Nat), .pointer (some p0)] W fun e w' => ∃ x : Nat, e = .returned (.float .f64 x) ∧ (P i j x ∧ x < 18446744073709551616) ∧ Below W.heap.size W w') :
    Calls Try.prog 93 #[.int .i64 r, .int .i64 c, .func (.func 94) #[] #[.pointer (some p0)]] w fun e w' => FillR P r c (r * c) w.heap.size e w' ∧ Below w.heap.size w w' := by
  have HF := hid hF
  have hst := fstoreM
  have hpp : r * c ≤ 10000 := Nat.mul_le_mul hr hc
  have HZ := hid (fun W => zeros_any r c hr hc W)
  have HPL : Hid (∀ i j, i < r → j < c → i * c + j < r * c) := fun i j hi hj => place_lt hi hj
  obtain ⟨N, hN⟩ : ∃ p, Hid (r * c = p) := ⟨_, rfl⟩
  rw [hN.out] at hpp HZ HPL ⊢
  clear hF
  go_enter Try.func93, Try.ntmps93
  go_wp2_with fail
  refine (HZ.out _).mono ?_
  rintro e w1 ⟨rfl, h1, h2⟩
  rw [World.size_alloc] at h1 ⊢
  have HSZ : Hid (w.heap.size + 1 + 1 < w1.heap.size) := h1.lt
  have hal : Below w1.heap.size w1 (w1.alloc (MBox r c (some ⟨w.heap.size + 1 + 1, 0, none⟩) N N)) := (Below.refl _ _).alloc (Nat.le_refl _) _
  have HFR : Hid (FrF w (w1.alloc (MBox r c (some ⟨w.heap.size + 1 + 1, 0, none⟩) N N)) w1.heap.size w.heap.size (MBox r c (some ⟨w.heap.size + 1 + 1, 0, none⟩) N N) (MBox 0 0 none 0 0)) :=
    ⟨(((Below.refl _ _).alloc (Nat.le_refl _) _).trans (h2.mono (by simp))).alloc (by have := HSZ.out; omega) _, nblkM _ _, (hal.block _ (by have := HSZ.out; omega)).trans ((h2.block _ (by simp)).trans (nblkM _ _))⟩
  have HR0 : Hid ((w1.alloc (MBox r c (some ⟨w.heap.size + 1 + 1, 0, none⟩) N N)).rowIs (w.heap.size + 1 + 1) 28 N (fun _ => .float .f64 0)) := h1.of_block (hal.block _ HSZ.out)
  obtain ⟨V1, hV1⟩ : ∃ V, Hid (w1.alloc (MBox r c (some ⟨w.heap.size + 1 + 1, 0, none⟩) N N) = V) := ⟨_, rfl⟩
  rw [hV1.out] at HFR HR0
  have hW1 := hV1.out
  obtain ⟨mb, hmb⟩ : ∃ V, Hid (w1.heap.size = V) := ⟨_, rfl⟩
  obtain ⟨rb, hrb⟩ : ∃ V, Hid (w.heap.size = V) := ⟨_, rfl⟩
  obtain ⟨g, hg⟩ : ∃ V, Hid (rb + 1 + 1 = V) := ⟨_, rfl⟩
  have HNE : Hid (mb ≠ g ∧ rb ≠ g ∧ w.heap.size ≤ g) := by
    have e1 := hmb.out; have e2 := hrb.out; have e3 := hg.out; have e4 := HSZ.out
    show _ ∧ _ ∧ _
    omega
  rw [hmb.out, hrb.out] at HFR
  rw [hrb.out] at HR0 hW1 ⊢
  rw [hg.out] at HFR HR0 hW1 ⊢
  have hmb1 := hmb.out
  have hrb1 := hrb.out
  unfold MBox at hW1
  unfold MV
  clear h1 h2 hal HZ
  go_wp2_with fail
  go_loopw [14] (fun iv wr => ∃ (i : Nat) (o : Nat → Nat), i ≤ r ∧ iv = .int .i64 i ∧ Hid (wr.rowIs g 28 N (fun k => .float .f64 (o k))) ∧ Hid (∀ a b, a < i → b < c → P a b (o (a * c + b)) ∧ o (a * c + b) < 18446744073709551616) ∧ Hid (FrF w wr mb rb (MBox r c (some ⟨g, 0, none⟩) N N) (MBox 0 0 none 0 0))) (fun iv _ => r - (intOf iv).toNat)
  case atStart => exact ⟨0, fun _ => 0, Nat.zero_le _, rfl, HR0, fun a b ha => absurd ha (Nat.not_lt_zero a), HFR⟩
  case round =>
    obtain ⟨i, o, hi, rfl, HR, HP, HFW⟩ := hrel
    by_cases hlt : i < r
    · have hiI : (i : Int) < (r : Int) := by omega
      have HI := hid hlt
      clear hlt
      go_wp2_with fail
      go_loopw [18] (fun jv wr2 => ∃ (j : Nat) (o2 : Nat → Nat), j ≤ c ∧ jv = .int .i64 j ∧ Hid (wr2.rowIs g 28 N (fun k => .float .f64 (o2 k))) ∧ Hid (∀ a b, (a < i ∨ (a = i ∧ b < j)) → b < c → P a b (o2 (a * c + b)) ∧ o2 (a * c + b) < 18446744073709551616) ∧ Hid (FrF w wr2 mb rb (MBox r c (some ⟨g, 0, none⟩) N N) (MBox 0 0 none 0 0))) (fun jv _ => c - (intOf jv).toNat)
      case atStart => exact ⟨0, o, Nat.zero_le _, rfl, HR, fun a b hab hb => HP.out a b (by rcases hab with h | ⟨_, h⟩ <;> omega) hb, HFW⟩
      case round =>
        obtain ⟨j, o2, hj, rfl, HR2, HP2, HFW2⟩ := hrel
        by_cases hl2 : j < c
        · have hjI : (j : Int) < (c : Int) := by omega
          have hkN := HPL.out i j HI.out hl2
          have hp : i * c ≤ 10000 := by omega
          have e1 : (i : Int) * (c : Int) = ((i * c : Nat) : Int) := by simp
          obtain ⟨p, hp'⟩ : ∃ p, Hid (i * c = p) := ⟨_, rfl⟩
          rw [hp'.out] at e1 hp hkN
          have e2 : (p : Int) + (j : Int) = ((p + j : Nat) : Int) := by simp
          obtain ⟨k, hk'⟩ : ∃ k, Hid (p + j = k) := ⟨_, rfl⟩
          have e3 := wrapM p (by omega)
          have e4 := wrapM k (by rw [← hk'.out]; omega)
          rw [hk'.out] at e2 hkN
          have k0 : (0 : Int) ≤ (k : Int) := by omega
          have k1 : (k : Int) < (N : Int) := by omega
          have HCALL := hid (HF.out wr.drew i j HFW2.out.drew.1 HI.out hl2)
          have HS0 : Hid (wr.drew.cell? ⟨mb, 2, none⟩ = some (.slice (some ⟨g, 0, none⟩) N N)) := (mcells_of HFW2.out.drew.2.1).2.2
          have HJ := hid hl2
          have HKN := hid hkN
          clear hl2 hkN hp
          go_wp2_with fail
          refine wp_region_held_drew (S := fun W => W.cell? ⟨mb, 2, none⟩ = some (.slice (some ⟨g, 0, none⟩) N N)) (by kernel_rfl) HS0.out (fun hHeld => ?_)
          refine take_at 0 21 (.pointer (some ⟨mb, 2, none⟩)) rfl rfl (by kernel_rfl) (by kernel_rfl) (by kernel_rfl) (fun _ _ _ h => h) (Or.inl ⟨by rfl, fun w hSw => by (try dsimp only at hSw); go_simp⟩) (by assumption) ?_
          simp only [Act.put, List.setIfInBounds_toArray, List.set_cons_zero, List.set_cons_succ]
          refine take_at 1 22 (.slice (some ⟨g, 0, none⟩) N N) rfl rfl (by kernel_rfl) (by kernel_rfl) (by kernel_rfl) (fun _ _ _ h => h) (Or.inl ⟨by rfl, fun w hSw => by (try dsimp only at hSw); go_simp⟩) (by assumption) ?_
          simp only [Act.put, List.setIfInBounds_toArray, List.set_cons_zero, List.set_cons_succ]
          refine take_at 2 23 (.int .i64 i) rfl rfl (by kernel_rfl) (by kernel_rfl) (by kernel_rfl) (fun _ _ _ h => h) (Or.inl ⟨by rfl, fun w hSw => by (try dsimp only at hSw); go_simp⟩) (by assumption) ?_
          simp only [Act.put, List.setIfInBounds_toArray, List.set_cons_zero, List.set_cons_succ]
          refine take_at 3 24 (.int .i64 c) rfl rfl (by kernel_rfl) (by kernel_rfl) (by kernel_rfl) (fun _ _ _ h => h) (Or.inl ⟨by rfl, fun w hSw => by (try dsimp only at hSw); go_simp⟩) (by assumption) ?_
          simp only [Act.put, List.setIfInBounds_toArray, List.set_cons_zero, List.set_cons_succ]
          refine take_at 4 25 (.int .i64 p) rfl rfl (by kernel_rfl) (by kernel_rfl) (by kernel_rfl) (fun _ _ _ h => h) (Or.inl ⟨by rfl, fun w hSw => by (try dsimp only at hSw); go_simp⟩) (by assumption) ?_
          simp only [Act.put, List.setIfInBounds_toArray, List.set_cons_zero, List.set_cons_succ]
          refine take_at 5 26 (.int .i64 j) rfl rfl (by kernel_rfl) (by kernel_rfl) (by kernel_rfl) (fun _ _ _ h => h) (Or.inl ⟨by rfl, fun w hSw => by (try dsimp only at hSw); go_simp⟩) (by assumption) ?_
          simp only [Act.put, List.setIfInBounds_toArray, List.set_cons_zero, List.set_cons_succ]
          refine take_at 6 27 (.int .i64 k) rfl rfl (by kernel_rfl) (by kernel_rfl) (by kernel_rfl) (fun _ _ _ h => h) (Or.inl ⟨by rfl, fun w hSw => by (try dsimp only at hSw); go_simp⟩) (by assumption) ?_
          simp only [Act.put, List.setIfInBounds_toArray, List.set_cons_zero, List.set_cons_succ]
          refine take_at 7 28 (.func (.func 94) #[] #[.pointer (some p0)]) rfl rfl (by kernel_rfl) (by kernel_rfl) (by kernel_rfl) (fun _ _ _ h => h) (Or.inl ⟨by rfl, fun w hSw => by (try dsimp only at hSw); go_simp⟩) (by assumption) ?_
          simp only [Act.put, List.setIfInBounds_toArray, List.set_cons_zero, List.set_cons_succ]
          refine take_at 8 29 (.int .i64 i) rfl rfl (by kernel_rfl) (by kernel_rfl) (by kernel_rfl) (fun _ _ _ h => h) (Or.inl ⟨by rfl, fun w hSw => by (try dsimp only at hSw); go_simp⟩) (by assumption) ?_
          simp only [Act.put, List.setIfInBounds_toArray, List.set_cons_zero, List.set_cons_succ]
          refine take_at 9 30 (.int .i64 j) rfl rfl (by kernel_rfl) (by kernel_rfl) (by kernel_rfl) (fun _ _ _ h => h) (Or.inl ⟨by rfl, fun w hSw => by (try dsimp only at hSw); go_simp⟩) (by assumption) ?_
          simp only [Act.put, List.setIfInBounds_toArray, List.set_cons_zero, List.set_cons_succ]
          refine wpAnyH_ready (rs := [10]) (by kernel_rfl) (by simp) ?_
          refine AllReadyH.cons (o := _) rfl (fun K hK => ?_) AllReadyH.nil
          go_simp
          refine HCALL.out.mono ?_
          rintro e u1 ⟨x, rfl, hx, hb1⟩
          have HX := hid hx
          have HFU := hid (HFW2.out.drew.call hb1)
          have HRU : Hid (u1.rowIs g 28 N (fun k => .float .f64 (o2 k))) := (HR2.out.of_block rfl).of_block (hb1.block _ HR2.out.lt)
          have HSU : Hid (u1.cell? ⟨mb, 2, none⟩ = some (.slice (some ⟨g, 0, none⟩) N N)) := (mcells_of HFU.out.2.1).2.2
          clear hx hb1
          go_wp2_with fail
          refine hK.out _ _ HSU.out (fun hHeld1 => ?_)
          clear hK K
          try simp only [Act.put, List.setIfInBounds_toArray, List.set_cons_zero, List.set_cons_succ]
          refine take_at 11 32 (.pointer (some ⟨g, k, none⟩)) rfl rfl (by kernel_rfl) (by kernel_rfl) (by kernel_rfl) (fun _ _ _ h => h) (Or.inl ⟨by rfl, fun w hSw => by (try dsimp only at hSw); go_simp⟩) (by assumption) ?_
          simp only [Act.put, List.setIfInBounds_toArray, List.set_cons_zero, List.set_cons_succ]
          have cx := HRU.out.cell (i := k) HKN.out
          have fx := HRU.out.frozen k
          have HSV : Hid ((u1.setCell ⟨g, k, none⟩ (.float .f64 x)).cell? ⟨mb, 2, none⟩ = some (.slice (some ⟨g, 0, none⟩) N N)) := (mcells_of (HFU.out.set HNE.out.1 HNE.out.2.1 HNE.out.2.2 _).2.1).2.2
          refine wpAnyH_ready (rs := [12]) (by kernel_rfl) (by simp) ?_
          refine AllReadyH.cons (o := _) rfl (fun K hK => ?_) AllReadyH.nil
          go_simp
          go_wp2_with fail
          refine hK.out _ _ HSV.out (fun hHeld2 => ?_)
          clear hK K
          try simp only [Act.put, List.setIfInBounds_toArray, List.set_cons_zero, List.set_cons_succ]
          refine wpAnyH_done (by kernel_rfl) ?_ _
          go_wp2_with fail
          have hkk : i * c + j = k := by rw [hp'.out, hk'.out]
          have hj1 := HJ.out
          refine ⟨⟨j + 1, fun t => if t = k then x else o2 t, by omega, by go_num, ?_, fun a b hab hb => ?_, HFU.out.set HNE.out.1 HNE.out.2.1 HNE.out.2.2 _⟩, ?_⟩
          · refine (HRU.out.set k _).congr (fun t _ => ?_)
            by_cases ht : t = k <;> simp [ht]
          · by_cases h : a * c + b = k
            · obtain ⟨ea, eb⟩ := place_ne hb hj1 (h.trans hkk.symm)
              subst ea eb
              dsimp only
              rw [if_pos h]
              exact HX.out
            · dsimp only
              rw [if_neg h]
              refine HP2.out a b ?_ hb
              rcases hab with h1 | ⟨h1, h2⟩
              · exact Or.inl h1
              · have : b ≠ j := fun hc => h (by rw [h1, hc]; exact hkk)
                exact Or.inr ⟨h1, by omega⟩
          · simp [intOf]; omega
        · obtain rfl : j = c := by omega
          go_wp2_with fail
          have hi1 := HI.out
          refine ⟨⟨i + 1, o2, by omega, by go_num, HR2, fun a b ha hb => HP2.out a b (by omega) hb, HFW2⟩, ?_⟩
          simp [intOf]; omega
    · obtain rfl : i = r := by omega
      obtain ⟨m0, m1, m2⟩ := mcells_of HFW.out.2.1
      obtain ⟨b0, b1, b2⟩ := mcells_of HFW.out.2.2
      have fz : ∀ o, wr.frozen? ⟨rb, o, none⟩ = false := fun o => by have := HFW.out.2.2; unfold MBox at this; simp [World.frozen?, this]
      go_wp2_with fail
      refine bodyPost_ret (v := MV i c (some ⟨g, 0, none⟩) N N) (by simp [results, Try.results93, go_sem, b0, b1, b2, MV]) rfl ⟨⟨g, o, rfl, by have := hg.out; omega, ?_, HP.out⟩, ?_⟩
      · exact ((HR.out.of_block (set_keepM (Ne.symm HNE.out.2.1) _)).of_block (set_keepM (Ne.symm HNE.out.2.1) _)).of_block (set_keepM (Ne.symm HNE.out.2.1) _)
      · exact ((HFW.out.1.setCell (p := ⟨rb, 0, none⟩) (by have := hrb.out; show w.heap.size ≤ rb; omega) _).setCell (p := ⟨rb, 1, none⟩) (by have := hrb.out; show w.heap.size ≤ rb; omega) _).setCell (p := ⟨rb, 2, none⟩) (by have := hrb.out; show w.heap.size ≤ rb; omega) _
set_option maxRecDepth 4000 in
set_option maxHeartbeats 2000000 in
theorem fill_byRows (r c : Nat) (hr : r ≤ 100) (hc : c ≤ 100) (p0 p1 : Addr) (P : Nat → Nat → Nat → Prop) (w : World)
    (hF : ∀ W i j, Below w.heap.size w W → i < r → j < c → Calls Try.prog 95 #[.int .i64 (i : Nat), .int .i64 (j : Nat), .pointer (some p0), .pointer (some p1)] W fun e w' => ∃ x : Nat, e = .returned (.float .f64 x) ∧ (P i j x ∧ x < 18446744073709551616) ∧ Below W.heap.size W w') :
    Calls Try.prog 93 #[.int .i64 r, .int .i64 c, .func (.func 95) #[] #[.pointer (some p0), .pointer (some p1)]] w fun e w' => FillR P r c (r * c) w.heap.size e w' ∧ Below w.heap.size w w' := by
  have HF := hid hF
  have hst := fstoreM
  have hpp : r * c ≤ 10000 := Nat.mul_le_mul hr hc
  have HZ := hid (fun W => zeros_any r c hr hc W)
  have HPL : Hid (∀ i j, i < r → j < c → i * c + j < r * c) := fun i j hi hj => place_lt hi hj
  obtain ⟨N, hN⟩ : ∃ p, Hid (r * c = p) := ⟨_, rfl⟩
  rw [hN.out] at hpp HZ HPL ⊢
  clear hF
  go_enter Try.func93, Try.ntmps93
  go_wp2_with fail
  refine (HZ.out _).mono ?_
  rintro e w1 ⟨rfl, h1, h2⟩
  rw [World.size_alloc] at h1 ⊢
  have HSZ : Hid (w.heap.size + 1 + 1 < w1.heap.size) := h1.lt
  have hal : Below w1.heap.size w1 (w1.alloc (MBox r c (some ⟨w.heap.size + 1 + 1, 0, none⟩) N N)) := (Below.refl _ _).alloc (Nat.le_refl _) _
  have HFR : Hid (FrF w (w1.alloc (MBox r c (some ⟨w.heap.size + 1 + 1, 0, none⟩) N N)) w1.heap.size w.heap.size (MBox r c (some ⟨w.heap.size + 1 + 1, 0, none⟩) N N) (MBox 0 0 none 0 0)) :=
    ⟨(((Below.refl _ _).alloc (Nat.le_refl _) _).trans (h2.mono (by simp))).alloc (by have := HSZ.out; omega) _, nblkM _ _, (hal.block _ (by have := HSZ.out; omega)).trans ((h2.block _ (by simp)).trans (nblkM _ _))⟩
  have HR0 : Hid ((w1.alloc (MBox r c (some ⟨w.heap.size + 1 + 1, 0, none⟩) N N)).rowIs (w.heap.size + 1 + 1) 28 N (fun _ => .float .f64 0)) := h1.of_block (hal.block _ HSZ.out)
  obtain ⟨V1, hV1⟩ : ∃ V, Hid (w1.alloc (MBox r c (some ⟨w.heap.size + 1 + 1, 0, none⟩) N N) = V) := ⟨_, rfl⟩
  rw [hV1.out] at HFR HR0
  have hW1 := hV1.out
  obtain ⟨mb, hmb⟩ : ∃ V, Hid (w1.heap.size = V) := ⟨_, rfl⟩
  obtain ⟨rb, hrb⟩ : ∃ V, Hid (w.heap.size = V) := ⟨_, rfl⟩
  obtain ⟨g, hg⟩ : ∃ V, Hid (rb + 1 + 1 = V) := ⟨_, rfl⟩
  have HNE : Hid (mb ≠ g ∧ rb ≠ g ∧ w.heap.size ≤ g) := by
    have e1 := hmb.out; have e2 := hrb.out; have e3 := hg.out; have e4 := HSZ.out
    show _ ∧ _ ∧ _
    omega
  rw [hmb.out, hrb.out] at HFR
  rw [hrb.out] at HR0 hW1 ⊢
  rw [hg.out] at HFR HR0 hW1 ⊢
  have hmb1 := hmb.out
  have hrb1 := hrb.out
  unfold MBox at hW1
  unfold MV
  clear h1 h2 hal HZ
  go_wp2_with fail
  go_loopw [14] (fun iv wr => ∃ (i : Nat) (o : Nat → Nat), i ≤ r ∧ iv = .int .i64 i ∧ Hid (wr.rowIs g 28 N (fun k => .float .f64 (o k))) ∧ Hid (∀ a b, a < i → b < c → P a b (o (a * c + b)) ∧ o (a * c + b) < 18446744073709551616) ∧ Hid (FrF w wr mb rb (MBox r c (some ⟨g, 0, none⟩) N N) (MBox 0 0 none 0 0))) (fun iv _ => r - (intOf iv).toNat)
  case atStart => exact ⟨0, fun _ => 0, Nat.zero_le _, rfl, HR0, fun a b ha => absurd ha (Nat.not_lt_zero a), HFR⟩
  case round =>
    obtain ⟨i, o, hi, rfl, HR, HP, HFW⟩ := hrel
    by_cases hlt : i < r
    · have hiI : (i : Int) < (r : Int) := by omega
      have HI := hid hlt
      clear hlt
      go_wp2_with fail
      go_loopw [18] (fun jv wr2 => ∃ (j : Nat) (o2 : Nat → Nat), j ≤ c ∧ jv = .int .i64 j ∧ Hid (wr2.rowIs g 28 N (fun k => .float .f64 (o2 k))) ∧ Hid (∀ a b, (a < i ∨ (a = i ∧ b < j)) → b < c → P a b (o2 (a * c + b)) ∧ o2 (a * c + b) < 18446744073709551616) ∧ Hid (FrF w wr2 mb rb (MBox r c (some ⟨g, 0, none⟩) N N) (MBox 0 0 none 0 0))) (fun jv _ => c - (intOf jv).toNat)
      case atStart => exact ⟨0, o, Nat.zero_le _, rfl, HR, fun a b hab hb => HP.out a b (by rcases hab with h | ⟨_, h⟩ <;> omega) hb, HFW⟩
      case round =>
        obtain ⟨j, o2, hj, rfl, HR2, HP2, HFW2⟩ := hrel
        by_cases hl2 : j < c
        · have hjI : (j : Int) < (c : Int) := by omega
          have hkN := HPL.out i j HI.out hl2
          have hp : i * c ≤ 10000 := by omega
          have e1 : (i : Int) * (c : Int) = ((i * c : Nat) : Int) := by simp
          obtain ⟨p, hp'⟩ : ∃ p, Hid (i * c = p) := ⟨_, rfl⟩
          rw [hp'.out] at e1 hp hkN
          have e2 : (p : Int) + (j : Int) = ((p + j : Nat) : Int) := by simp
          obtain ⟨k, hk'⟩ : ∃ k, Hid (p + j = k) := ⟨_, rfl⟩
          have e3 := wrapM p (by omega)
          have e4 := wrapM k (by rw [← hk'.out]; omega)
          rw [hk'.out] at e2 hkN
          have k0 : (0 : Int) ≤ (k : Int) := by omega
          have k1 : (k : Int) < (N : Int) := by omega
          have HCALL := hid (HF.out wr.drew i j HFW2.out.drew.1 HI.out hl2)
          have HS0 : Hid (wr.drew.cell? ⟨mb, 2, none⟩ = some (.slice (some ⟨g, 0, none⟩) N N)) := (mcells_of HFW2.out.drew.2.1).2.2
          have HJ := hid hl2
          have HKN := hid hkN
          clear hl2 hkN hp
          go_wp2_with fail
          refine wp_region_held_drew (S := fun W => W.cell? ⟨mb, 2, none⟩ = some (.slice (some ⟨g, 0, none⟩) N N)) (by kernel_rfl) HS0.out (fun hHeld => ?_)
          refine take_at 0 21 (.pointer (some ⟨mb, 2, none⟩)) rfl rfl (by kernel_rfl) (by kernel_rfl) (by kernel_rfl) (fun _ _ _ h => h) (Or.inl ⟨by rfl, fun w hSw => by (try dsimp only at hSw); go_simp⟩) (by assumption) ?_
          simp only [Act.put, List.setIfInBounds_toArray, List.set_cons_zero, List.set_cons_succ]
          refine take_at 1 22 (.slice (some ⟨g, 0, none⟩) N N) rfl rfl (by kernel_rfl) (by kernel_rfl) (by kernel_rfl) (fun _ _ _ h => h) (Or.inl ⟨by rfl, fun w hSw => by (try dsimp only at hSw); go_simp⟩) (by assumption) ?_
          simp only [Act.put, List.setIfInBounds_toArray, List.set_cons_zero, List.set_cons_succ]
          refine take_at 2 23 (.int .i64 i) rfl rfl (by kernel_rfl) (by kernel_rfl) (by kernel_rfl) (fun _ _ _ h => h) (Or.inl ⟨by rfl, fun w hSw => by (try dsimp only at hSw); go_simp⟩) (by assumption) ?_
          simp only [Act.put, List.setIfInBounds_toArray, List.set_cons_zero, List.set_cons_succ]
          refine take_at 3 24 (.int .i64 c) rfl rfl (by kernel_rfl) (by kernel_rfl) (by kernel_rfl) (fun _ _ _ h => h) (Or.inl ⟨by rfl, fun w hSw => by (try dsimp only at hSw); go_simp⟩) (by assumption) ?_
          simp only [Act.put, List.setIfInBounds_toArray, List.set_cons_zero, List.set_cons_succ]
          refine take_at 4 25 (.int .i64 p) rfl rfl (by kernel_rfl) (by kernel_rfl) (by kernel_rfl) (fun _ _ _ h => h) (Or.inl ⟨by rfl, fun w hSw => by (try dsimp only at hSw); go_simp⟩) (by assumption) ?_
          simp only [Act.put, List.setIfInBounds_toArray, List.set_cons_zero, List.set_cons_succ]
          refine take_at 5 26 (.int .i64 j) rfl rfl (by kernel_rfl) (by kernel_rfl) (by kernel_rfl) (fun _ _ _ h => h) (Or.inl ⟨by rfl, fun w hSw => by (try dsimp only at hSw); go_simp⟩) (by assumption) ?_
          simp only [Act.put, List.setIfInBounds_toArray, List.set_cons_zero, List.set_cons_succ]
          refine take_at 6 27 (.int .i64 k) rfl rfl (by kernel_rfl) (by kernel_rfl) (by kernel_rfl) (fun _ _ _ h => h) (Or.inl ⟨by rfl, fun w hSw => by (try dsimp only at hSw); go_simp⟩) (by assumption) ?_
          simp only [Act.put, List.setIfInBounds_toArray, List.set_cons_zero, List.set_cons_succ]
          refine take_at 7 28 (.func (.func 95) #[] #[.pointer (some p0), .pointer (some p1)]) rfl rfl (by kernel_rfl) (by kernel_rfl) (by kernel_rfl) (fun _ _ _ h => h) (Or.inl ⟨by rfl, fun w hSw => by (try dsimp only at hSw); go_simp⟩) (by assumption) ?_
          simp only [Act.put, List.setIfInBounds_toArray, List.set_cons_zero, List.set_cons_succ]
          refine take_at 8 29 (.int .i64 i) rfl rfl (by kernel_rfl) (by kernel_rfl) (by kernel_rfl) (fun _ _ _ h => h) (Or.inl ⟨by rfl, fun w hSw => by (try dsimp only at hSw); go_simp⟩) (by assumption) ?_
          simp only [Act.put, List.setIfInBounds_toArray, List.set_cons_zero, List.set_cons_succ]
          refine take_at 9 30 (.int .i64 j) rfl rfl (by kernel_rfl) (by kernel_rfl) (by kernel_rfl) (fun _ _ _ h => h) (Or.inl ⟨by rfl, fun w hSw => by (try dsimp only at hSw); go_simp⟩) (by assumption) ?_
          simp only [Act.put, List.setIfInBounds_toArray, List.set_cons_zero, List.set_cons_succ]
          refine wpAnyH_ready (rs := [10]) (by kernel_rfl) (by simp) ?_
          refine AllReadyH.cons (o := _) rfl (fun K hK => ?_) AllReadyH.nil
          go_simp
          refine HCALL.out.mono ?_
          rintro e u1 ⟨x, rfl, hx, hb1⟩
          have HX := hid hx
          have HFU := hid (HFW2.out.drew.call hb1)
          have HRU : Hid (u1.rowIs g 28 N (fun k => .float .f64 (o2 k))) := (HR2.out.of_block rfl).of_block (hb1.block _ HR2.out.lt)
          have HSU : Hid (u1.cell? ⟨mb, 2, none⟩ = some (.slice (some ⟨g, 0, none⟩) N N)) := (mcells_of HFU.out.2.1).2.2
          clear hx hb1
          go_wp2_with fail
          refine hK.out _ _ HSU.out (fun hHeld1 => ?_)
          clear hK K
          try simp only [Act.put, List.setIfInBounds_toArray, List.set_cons_zero, List.set_cons_succ]
          refine take_at 11 32 (.pointer (some ⟨g, k, none⟩)) rfl rfl (by kernel_rfl) (by kernel_rfl) (by kernel_rfl) (fun _ _ _ h => h) (Or.inl ⟨by rfl, fun w hSw => by (try dsimp only at hSw); go_simp⟩) (by assumption) ?_
          simp only [Act.put, List.setIfInBounds_toArray, List.set_cons_zero, List.set_cons_succ]
          have cx := HRU.out.cell (i := k) HKN.out
          have fx := HRU.out.frozen k
          have HSV : Hid ((u1.setCell ⟨g, k, none⟩ (.float .f64 x)).cell? ⟨mb, 2, none⟩ = some (.slice (some ⟨g, 0, none⟩) N N)) := (mcells_of (HFU.out.set HNE.out.1 HNE.out.2.1 HNE.out.2.2 _).2.1).2.2
          refine wpAnyH_ready (rs := [12]) (by kernel_rfl) (by simp) ?_
          refine AllReadyH.cons (o := _) rfl (fun K hK => ?_) AllReadyH.nil
          go_simp
          go_wp2_with fail
          refine hK.out _ _ HSV.out (fun hHeld2 => ?_)
          clear hK K
          try simp only [Act.put, List.setIfInBounds_toArray, List.set_cons_zero, List.set_cons_succ]
          refine wpAnyH_done (by kernel_rfl) ?_ _
          go_wp2_with fail
          have hkk : i * c + j = k := by rw [hp'.out, hk'.out]
          have hj1 := HJ.out
          refine ⟨⟨j + 1, fun t => if t = k then x else o2 t, by omega, by go_num, ?_, fun a b hab hb => ?_, HFU.out.set HNE.out.1 HNE.out.2.1 HNE.out.2.2 _⟩, ?_⟩
          · refine (HRU.out.set k _).congr (fun t _ => ?_)
            by_cases ht : t = k <;> simp [ht]
          · by_cases h : a * c + b = k
            · obtain ⟨ea, eb⟩ := place_ne hb hj1 (h.trans hkk.symm)
              subst ea eb
              dsimp only
              rw [if_pos h]
              exact HX.out
            · dsimp only
              rw [if_neg h]
              refine HP2.out a b ?_ hb
              rcases hab with h1 | ⟨h1, h2⟩
              · exact Or.inl h1
              · have : b ≠ j := fun hc => h (by rw [h1, hc]; exact hkk)
                exact Or.inr ⟨h1, by omega⟩
          · simp [intOf]; omega
        · obtain rfl : j = c := by omega
          go_wp2_with fail
          have hi1 := HI.out
          refine ⟨⟨i + 1, o2, by omega, by go_num, HR2, fun a b ha hb => HP2.out a b (by omega) hb, HFW2⟩, ?_⟩
          simp [intOf]; omega
    · obtain rfl : i = r := by omega
      obtain ⟨m0, m1, m2⟩ := mcells_of HFW.out.2.1
      obtain ⟨b0, b1, b2⟩ := mcells_of HFW.out.2.2
      have fz : ∀ o, wr.frozen? ⟨rb, o, none⟩ = false := fun o => by have := HFW.out.2.2; unfold MBox at this; simp [World.frozen?, this]
      go_wp2_with fail
      refine bodyPost_ret (v := MV i c (some ⟨g, 0, none⟩) N N) (by simp [results, Try.results93, go_sem, b0, b1, b2, MV]) rfl ⟨⟨g, o, rfl, by have := hg.out; omega, ?_, HP.out⟩, ?_⟩
      · exact ((HR.out.of_block (set_keepM (Ne.symm HNE.out.2.1) _)).of_block (set_keepM (Ne.symm HNE.out.2.1) _)).of_block (set_keepM (Ne.symm HNE.out.2.1) _)
      · exact ((HFW.out.1.setCell (p := ⟨rb, 0, none⟩) (by have := hrb.out; show w.heap.size ≤ rb; omega) _).setCell (p := ⟨rb, 1, none⟩) (by have := hrb.out; show w.heap.size ≤ rb; omega) _).setCell (p := ⟨rb, 2, none⟩) (by have := hrb.out; show w.heap.size ≤ rb; omega) _
end Go.Proofs.Ythakhmnlpmfdgaa
