
/- What stays while steps are looked at; the document's Dot by steps. (Written by mkrtad.py.) -/
import Derived.Test.YthakhmnlpmfdgaaP42
namespace Go.Proofs.Ythakhmnlpmfdgaa
open Go.RowKit Go.IntWalk

theorem sbx_cell {w : World} {b : Nat} {q : Bool} {k v : Nat} (h : w.heap[b]? = some (SBx q)) : w.cell? ⟨b, k, none⟩ ≠ some (.float .f64 v) := by
  unfold SBx at h
  intro c
  cases k with
  | zero => simp [World.cell?, h] at c
  | succ k => simp [World.cell?, h] at c
/-- What is done while the steps b are looked at: below B nothing but they is changed. -/
structure Stp (B b : Nat) (o : Bool) (w W : World) : Prop where
  bel : Below 0 w W
  keep : ∀ x, x < B → x ≠ b → W.heap[x]? = w.heap[x]?
  box : W.heap[b]? = some (SBx o)
theorem Stp.size {B b : Nat} {o : Bool} {w W : World} (h : Stp B b o w W) : w.heap.size ≤ W.heap.size := h.bel.size
theorem Stp.lt {B b : Nat} {o : Bool} {w W : World} (h : Stp B b o w W) : b < W.heap.size := (Array.getElem?_eq_some_iff.1 h.box).1
theorem Stp.start {B b : Nat} {o : Bool} {w : World} (h : w.heap[b]? = some (SBx o)) : Stp B b o w w := ⟨Below.refl _ _, fun _ _ _ => rfl, h⟩
theorem Stp.step {B b : Nat} {o : Bool} {w W W' : World} (h : Stp B b o w W) (hb : Below W.heap.size W W') (hB : B ≤ W.heap.size) : Stp B b o w W' := ⟨h.bel.trans (hb.mono (Nat.zero_le _)), fun x hx hn => (hb.block x (by omega)).trans (h.keep x hx hn), blkM h.box hb⟩
theorem Stp.s {B b : Nat} {o : Bool} {w W : World} (h : Stp B b o w W) (p : Bool) : Stp B b p w (W.setCell ⟨b, 0, none⟩ (.bool p)) := ⟨h.bel.setCell (p := ⟨b, 0, none⟩) (Nat.zero_le _) _, fun x hx hn => (Below.heap_setCell W ⟨b, 0, none⟩ _ x hn).trans (h.keep x hx hn), sbx_set h.box⟩
theorem Stp.cell {B b : Nat} {o : Bool} {w W : World} (h : Stp B b o w W) {p : Addr} (hp : B ≤ p.block) (hn : p.block ≠ b) (u : Value) : Stp B b o w (W.setCell p u) := ⟨h.bel.setCell (Nat.zero_le _) u, fun x hx hne => (Below.heap_setCell W p u x (by omega)).trans (h.keep x hx hne), (Below.heap_setCell W p u b (Ne.symm hn)).trans h.box⟩
theorem Stp.trans {B b : Nat} {o p : Bool} {w W W' : World} (h : Stp B b o w W) (k : Stp W.heap.size b p W W') (hB : B ≤ W.heap.size) : Stp B b p w W' := ⟨h.bel.trans k.bel, fun x hx hn => (k.keep x (by omega) hn).trans (h.keep x hx hn), k.box⟩
theorem Stp.below {B b C : Nat} {o : Bool} {w W : World} (h : Stp B b o w W) (hC : C ≤ B) (hb : C ≤ b) : Below C w W := ⟨h.bel.os, h.bel.tape, h.bel.output, h.bel.size, fun k hk => h.keep k (by omega) (by omega)⟩
theorem Stp.at {B b x : Nat} {o : Bool} {w W : World} {ob : Obj} (h : Stp B b o w W) (hx : w.heap[x]? = some ob) (hB : x < B) (hn : x ≠ b) : W.heap[x]? = some ob := (h.keep x hB hn).trans hx
theorem Stp.fn {B b : Nat} {o q : Bool} {w W : World} {s : Option Addr} {n k : Nat} {f : Nat → Nat} (h : Stp B b o w W) (hB : w.heap.size ≤ B) (hb : w.heap[b]? = some (SBx q)) (hf : FnM w s n k f) : FnM W s n k f := by
  rcases hf with hf | ⟨c, off, e, h1, h2, h3, h4⟩
  · exact Or.inl hf
  · refine Or.inr ⟨c, off, e, Nat.lt_of_lt_of_le h1 h.size, h2, h3, fun j hj => ⟨?_, (h4 j hj).2⟩⟩
    have hne : c ≠ b := fun e => by
      subst e
      exact sbx_cell hb (h4 j hj).1
    exact (World.cell?_of_block (h.keep c (by omega) hne)).trans (h4 j hj).1
theorem Stp.fl {B b : Nat} {o q : Bool} {w W : World} {s : Option Addr} {n k : Nat} {xs : List Nat} (h : Stp B b o w W) (hB : w.heap.size ≤ B) (hb : w.heap[b]? = some (SBx q)) (hf : FlM w s n k xs) : FlM W s n k xs := by
  obtain ⟨a1, a2, a3 | ⟨c, off, e, h1, h2, h3, h4⟩⟩ := hf
  · exact ⟨a1, a2, Or.inl a3⟩
  · refine ⟨a1, a2, Or.inr ⟨c, off, e, Nat.lt_of_lt_of_le h1 h.size, h2, h3, fun j hj => ?_⟩⟩
    have hne : c ≠ b := fun e => by
      subst e
      exact sbx_cell hb (h4 j hj)
    exact (World.cell?_of_block (h.keep c (by omega) hne)).trans (h4 j hj)
theorem fnO_cell {W : World} {b off n k j : Nat} {f : Nat → Nat} (h : FnM W (some ⟨b, off, none⟩) n k f) (hj : j < n) : W.cell? ⟨b, off + j, none⟩ = some (.float .f64 (f j)) := by
  rcases h with ⟨h, _⟩ | ⟨b', off', e, _, _, _, h4⟩
  · cases h
  · cases e
    exact (h4 j hj).1
theorem stepF (b : Nat) (o : Bool) (x c : Nat) (w : World) (hx : x < 18446744073709551616) (hc : canonOf x = c) (h : w.heap[b]? = some (SBx o)) :
    Calls Try.prog 35 #[.pointer (some ⟨b, 0, none⟩), .float .f64 x] w fun e w' => e = .returned (.float .f64 x) ∧ w' = w.setCell ⟨b, 0, none⟩ (.bool (o || !finB c)) := by
  have h1 := stepS b o x w hx h
  have h2 : (expOf x == 2047) = !finB c := by rw [← hc, finB_canon, ← finB_exp x hx]; simp
  rw [h2] at h1
  exact h1
theorem or_nf {o D M R : Bool} (h : R = true → D = true ∧ M = true) : (((o || !D) || !M) || !R) = (o || !R) := by
  cases R with
  | true => obtain ⟨rfl, rfl⟩ := h rfl; simp
  | false => simp
theorem dotM_lt (f g : Nat → Nat) (n : Nat) : dotM f g n < 18446744073709551616 := by
  cases n with
  | zero => show (0 : Nat) < _; decide
  | succ n => exact caf_lt .add ok_a _ _
set_option maxRecDepth 4000 in
set_option maxHeartbeats 2000000 in
theorem sDot (b : Nat) (o : Bool) (n ka kb : Nat) (sa sb : Option Addr) (f g : Nat → Nat) (w : World) (hs : w.heap[b]? = some (SBx o)) (ha : FnM w sa n ka f) (hb : FnM w sb n kb g) (hn : n ≤ 12) :
    Calls Try.prog 58 #[.pointer (some ⟨b, 0, none⟩), .slice sa n ka, .slice sb n kb] w fun e w' => (∃ z, e = .returned (.float .f64 z) ∧ z < 18446744073709551616 ∧ canonOf z = dotM f g n) ∧ Stp w.heap.size b (o || !finB (dotM f g n)) w w' := by
  have HSB := hid hs
  have HA := hid ha
  have HB := hid hb
  have HN := hid hn
  have r1 := ar_run .add ok_a
  have r3 := ar_run .mul ok_m
  clear hs ha hb hn
  go_enter Try.func58, Try.ntmps58
  go_wp2_with fail
  go_loopw [7, 11] (fun s i wr => ∃ k s0 : Nat, k ≤ n ∧ s = .float .f64 s0 ∧ i = .int .i64 k ∧ Hid (s0 < 18446744073709551616 ∧ canonOf s0 = dotM f g k) ∧ Hid (Stp w.heap.size b (o || !finB (dotM f g k)) w wr)) (fun _ i _ => n - (intOf i).toNat)
  case atStart => exact ⟨0, 0, Nat.zero_le _, rfl, rfl, ⟨by decide, by show canonOf 0 = 0; decide⟩, by rw [show (o || !finB (dotM f g 0)) = o by show (o || !finB 0) = o; rw [show finB 0 = true by decide]; simp]; exact Stp.start HSB.out⟩
  case round =>
    obtain ⟨k, s0, hk, rfl, rfl, HS, HW⟩ := hrel
    by_cases hlt : k < n
    · obtain ⟨b1, o1, rfl, hb1, hc1⟩ := fn_some HA.out (by omega)
      obtain ⟨b2, o2, rfl, hb2, hc2⟩ := fn_some HB.out (by omega)
      have hx := (hc1 k hlt).2
      have hy := (hc2 k hlt).2
      have HXY : Hid (f k < 18446744073709551616 ∧ g k < 18446744073709551616) := ⟨hx, hy⟩
      have HK := hid hlt
      have HKS0 : Hid (∀ W, Hid (∃ q, Stp w.heap.size b q w W) → (W.cell? ⟨b1, o1 + k, none⟩ = some (.float .f64 (f k)) ∧ W.cell? ⟨b2, o2 + k, none⟩ = some (.float .f64 (g k))) ∧ Hid (∃ q, Stp w.heap.size b q w W)) := fun W hW => by
        obtain ⟨q, hq⟩ := hW.out
        exact ⟨⟨fnO_cell (hq.fn (Nat.le_refl _) HSB.out HA.out) HK.out, fnO_cell (hq.fn (Nat.le_refl _) HSB.out HB.out) HK.out⟩, hW⟩
      have HDM : Hid (dotM f g (k + 1) = caf .add (dotM f g k) (caf .mul (canonOf (f k)) (canonOf (g k)))) := rfl
      obtain ⟨x, hxx⟩ : ∃ x, Hid (f k = x) := ⟨_, rfl⟩
      obtain ⟨y, hyy⟩ : ∃ y, Hid (g k = y) := ⟨_, rfl⟩
      rw [hxx.out, hyy.out] at HKS0 HXY HDM
      have HKS : Hid (∀ W, Hid (∃ q, Stp w.heap.size b q w W) → (W.cell? ⟨b1, o1 + k, none⟩ = some (.float .f64 x) ∧ W.cell? ⟨b2, o2 + k, none⟩ = some (.float .f64 y)) ∧ Hid (∃ q, Stp w.heap.size b q w W)) := HKS0.out
      have hkI : (k : Int) < (n : Int) := by omega
      have hk0 : (0 : Int) ≤ (k : Int) := by omega
      have wk : IntKind.i64.wrap ((k : Int) + 1) = (k : Int) + 1 := IntWalk.i64_in _ (by have := HN.out; omega)
      obtain ⟨D, hD⟩ : ∃ t, Hid (dotM f g k = t) := ⟨_, rfl⟩
      rw [hD.out] at HS HW HDM
      have HQ0 : Hid (∃ q, Stp w.heap.size b q w wr.drew) := ⟨_, HW.out.step (Below.refl _ _).drew HW.out.size⟩
      have HW0 : Hid (Stp w.heap.size b (o || !finB D) w wr.drew) := HW.out.step (Below.refl _ _).drew HW.out.size
      have HZ1 : Hid (arF .mul x y wr.drew < 18446744073709551616 ∧ canonOf (arF .mul x y wr.drew) = caf .mul (canonOf x) (canonOf y)) := ⟨arF_lt ok_m _ _ _, canon_ar ok_m _ _ _ HXY.out.1 HXY.out.2⟩
      have HW1 : Hid (Stp w.heap.size b (o || !finB D) w (arG .mul x y wr.drew)) := HW0.out.step (bl_ar (Below.refl _ _) .mul x y) HW0.out.size
      obtain ⟨Z1, hZ1⟩ : ∃ t, Hid (arF .mul x y wr.drew = t) := ⟨_, rfl⟩
      obtain ⟨U1, hU1⟩ : ∃ t, Hid (arG .mul x y wr.drew = t) := ⟨_, rfl⟩
      rw [hZ1.out] at HZ1
      rw [hU1.out] at HW1
      have hZ1' := hZ1.out
      have hU1' := hU1.out
      obtain ⟨M, hM⟩ : ∃ t, Hid (caf .mul (canonOf x) (canonOf y) = t) := ⟨_, rfl⟩
      rw [hM.out] at HZ1 HDM
      have HS1 := hid (stepF b (o || !finB D) Z1 M U1 HZ1.out.1 HZ1.out.2 HW1.out.box)
      have HW2 := hid (HW1.out.s ((o || !finB D) || !finB M))
      obtain ⟨Q1, hQ1⟩ : ∃ t, Hid (((o || !finB D) || !finB M) = t) := ⟨_, rfl⟩
      rw [hQ1.out] at HS1 HW2
      obtain ⟨U2, hU2⟩ : ∃ t, Hid (U1.setCell ⟨b, 0, none⟩ (.bool Q1) = t) := ⟨_, rfl⟩
      rw [hU2.out] at HS1 HW2
      have HZ2 : Hid (arF .add s0 Z1 U2 < 18446744073709551616 ∧ canonOf (arF .add s0 Z1 U2) = dotM f g (k + 1)) := ⟨arF_lt ok_a _ _ _, by rw [canon_ar ok_a _ _ _ HS.out.1 HZ1.out.1, HS.out.2, HZ1.out.2, HDM.out]⟩
      have HW3 : Hid (Stp w.heap.size b Q1 w (arG .add s0 Z1 U2)) := HW2.out.step (bl_ar (Below.refl _ _) .add s0 Z1) HW2.out.size
      obtain ⟨Z2, hZ2⟩ : ∃ t, Hid (arF .add s0 Z1 U2 = t) := ⟨_, rfl⟩
      obtain ⟨U3, hU3⟩ : ∃ t, Hid (arG .add s0 Z1 U2 = t) := ⟨_, rfl⟩
      rw [hZ2.out] at HZ2
      rw [hU3.out] at HW3
      have hZ2' := hZ2.out
      have hU3' := hU3.out
      have HS2 := hid (stepF b Q1 Z2 _ U3 HZ2.out.1 HZ2.out.2 HW3.out.box)
      have HW4 := hid (HW3.out.s (Q1 || !finB (dotM f g (k + 1))))
      have HOR : Hid ((Q1 || !finB (dotM f g (k + 1))) = (o || !finB (dotM f g (k + 1)))) := by
        show _ = _
        rw [← hQ1.out]
        have h1 := fun h => nf_add (x := D) (y := M) (by rw [← hD.out]; exact dotM_lt _ _ _) (by rw [← hM.out]; exact caf_lt _ ok_m _ _) h
        rw [← HDM.out] at h1
        exact or_nf h1
      rw [HOR.out] at HS2 HW4
      obtain ⟨Q2, hQ2⟩ : ∃ t, Hid ((o || !finB (dotM f g (k + 1))) = t) := ⟨_, rfl⟩
      rw [hQ2.out] at HS2 HW4
      obtain ⟨U4, hU4⟩ : ∃ t, Hid (U3.setCell ⟨b, 0, none⟩ (.bool Q2) = t) := ⟨_, rfl⟩
      rw [hU4.out] at HS2 HW4
      have q1 : Hid (∃ q, Stp w.heap.size b q w U1) := ⟨_, HW1.out⟩
      have q2 : Hid (∃ q, Stp w.heap.size b q w U2) := ⟨_, HW2.out⟩
      have q3 : Hid (∃ q, Stp w.heap.size b q w U3) := ⟨_, HW3.out⟩
      have q4 : Hid (∃ q, Stp w.heap.size b q w U4) := ⟨_, HW4.out⟩
      clear hx hy hc1 hc2 hb1 hb2 HKS0
      go_wp2_with fail
      refine wp_region_held_drew (S := fun W => (W.cell? ⟨b1, o1 + k, none⟩ = some (.float .f64 x) ∧ W.cell? ⟨b2, o2 + k, none⟩ = some (.float .f64 y)) ∧ Hid (∃ q, Stp w.heap.size b q w W)) (by kernel_rfl) (HKS.out _ HQ0) (fun hHeld => ?_)
      refine take_at 0 14 (.pointer (some ⟨b, 0, none⟩)) rfl rfl (by kernel_rfl) (by kernel_rfl) (by kernel_rfl) (fun _ _ _ h => h) (Or.inl ⟨by rfl, fun w hSw => by (try dsimp only at hSw); go_simp⟩) (by assumption) ?_
      simp only [Act.put, List.setIfInBounds_toArray, List.set_cons_zero, List.set_cons_succ]
      refine take_at 1 15 (.float .f64 s0) rfl rfl (by kernel_rfl) (by kernel_rfl) (by kernel_rfl) (fun _ _ _ h => h) (Or.inl ⟨by rfl, fun w hSw => by (try dsimp only at hSw); go_simp⟩) (by assumption) ?_
      simp only [Act.put, List.setIfInBounds_toArray, List.set_cons_zero, List.set_cons_succ]
      refine take_at 2 16 (.pointer (some ⟨b, 0, none⟩)) rfl rfl (by kernel_rfl) (by kernel_rfl) (by kernel_rfl) (fun _ _ _ h => h) (Or.inl ⟨by rfl, fun w hSw => by (try dsimp only at hSw); go_simp⟩) (by assumption) ?_
      simp only [Act.put, List.setIfInBounds_toArray, List.set_cons_zero, List.set_cons_succ]
      refine take_at 3 17 (.slice (some ⟨b1, o1, none⟩) n ka) rfl rfl (by kernel_rfl) (by kernel_rfl) (by kernel_rfl) (fun _ _ _ h => h) (Or.inl ⟨by rfl, fun w hSw => by (try dsimp only at hSw); go_simp⟩) (by assumption) ?_
      simp only [Act.put, List.setIfInBounds_toArray, List.set_cons_zero, List.set_cons_succ]
      refine take_at 4 18 (.int .i64 k) rfl rfl (by kernel_rfl) (by kernel_rfl) (by kernel_rfl) (fun _ _ _ h => h) (Or.inl ⟨by rfl, fun w hSw => by (try dsimp only at hSw); go_simp⟩) (by assumption) ?_
      simp only [Act.put, List.setIfInBounds_toArray, List.set_cons_zero, List.set_cons_succ]
      refine take_at 5 19 (.pointer (some ⟨b1, o1 + k, none⟩)) rfl rfl (by kernel_rfl) (by kernel_rfl) (by kernel_rfl) (fun _ _ _ h => h) (Or.inl ⟨by rfl, fun w hSw => by (try dsimp only at hSw); go_simp⟩) (by assumption) ?_
      simp only [Act.put, List.setIfInBounds_toArray, List.set_cons_zero, List.set_cons_succ]
      refine take_at 6 20 (.float .f64 x) rfl rfl (by kernel_rfl) (by kernel_rfl) (by kernel_rfl) (fun _ _ _ h => h) (Or.inl ⟨by rfl, fun w hSw => by (try dsimp only at hSw); go_simp⟩) (by assumption) ?_
      simp only [Act.put, List.setIfInBounds_toArray, List.set_cons_zero, List.set_cons_succ]
      refine take_at 7 21 (.slice (some ⟨b2, o2, none⟩) n kb) rfl rfl (by kernel_rfl) (by kernel_rfl) (by kernel_rfl) (fun _ _ _ h => h) (Or.inl ⟨by rfl, fun w hSw => by (try dsimp only at hSw); go_simp⟩) (by assumption) ?_
      simp only [Act.put, List.setIfInBounds_toArray, List.set_cons_zero, List.set_cons_succ]
      refine take_at 8 22 (.int .i64 k) rfl rfl (by kernel_rfl) (by kernel_rfl) (by kernel_rfl) (fun _ _ _ h => h) (Or.inl ⟨by rfl, fun w hSw => by (try dsimp only at hSw); go_simp⟩) (by assumption) ?_
      simp only [Act.put, List.setIfInBounds_toArray, List.set_cons_zero, List.set_cons_succ]
      refine take_at 9 23 (.pointer (some ⟨b2, o2 + k, none⟩)) rfl rfl (by kernel_rfl) (by kernel_rfl) (by kernel_rfl) (fun _ _ _ h => h) (Or.inl ⟨by rfl, fun w hSw => by (try dsimp only at hSw); go_simp⟩) (by assumption) ?_
      simp only [Act.put, List.setIfInBounds_toArray, List.set_cons_zero, List.set_cons_succ]
      refine take_at 10 24 (.float .f64 y) rfl rfl (by kernel_rfl) (by kernel_rfl) (by kernel_rfl) (fun _ _ _ h => h) (Or.inl ⟨by rfl, fun w hSw => by (try dsimp only at hSw); go_simp⟩) (by assumption) ?_
      simp only [Act.put, List.setIfInBounds_toArray, List.set_cons_zero, List.set_cons_succ]
      refine wpAnyH_ready (rs := [11]) (by kernel_rfl) (by simp) ?_
      refine AllReadyH.cons (o := _) rfl (fun K hK => ?_) AllReadyH.nil
      go_simp
      go_wp2_with fail
      refine hK.out _ _ (HKS.out _ q1) (fun hHeld1 => ?_)
      clear hK K
      try simp only [Act.put, List.setIfInBounds_toArray, List.set_cons_zero, List.set_cons_succ]
      refine wpAnyH_ready (rs := [12]) (by kernel_rfl) (by simp) ?_
      refine AllReadyH.cons (o := _) rfl (fun K hK => ?_) AllReadyH.nil
      go_simp
      refine (HS1.out).mono ?_
      rintro e ww ⟨rfl, hw⟩
      rw [hw]
      clear hw
      go_wp2_with fail
      refine hK.out _ _ (HKS.out _ q2) (fun hHeld2 => ?_)
      clear hK K
      try simp only [Act.put, List.setIfInBounds_toArray, List.set_cons_zero, List.set_cons_succ]
      refine wpAnyH_ready (rs := [13]) (by kernel_rfl) (by simp) ?_
      refine AllReadyH.cons (o := _) rfl (fun K hK => ?_) AllReadyH.nil
      go_simp
      go_wp2_with fail
      refine hK.out _ _ (HKS.out _ q3) (fun hHeld3 => ?_)
      clear hK K
      try simp only [Act.put, List.setIfInBounds_toArray, List.set_cons_zero, List.set_cons_succ]
      refine wpAnyH_ready (rs := [14]) (by kernel_rfl) (by simp) ?_
      refine AllReadyH.cons (o := _) rfl (fun K hK => ?_) AllReadyH.nil
      go_simp
      refine (HS2.out).mono ?_
      rintro e ww ⟨rfl, hw⟩
      rw [hw]
      clear hw
      go_wp2_with fail
      refine hK.out _ _ (HKS.out _ q4) (fun hHeld4 => ?_)
      clear hK K
      try simp only [Act.put, List.setIfInBounds_toArray, List.set_cons_zero, List.set_cons_succ]
      refine take_at 15 7 (.float .f64 Z2) rfl rfl (by kernel_rfl) (by kernel_rfl) (by kernel_rfl) (fun _ _ _ h => h) (Or.inl ⟨by rfl, fun w hSw => by (try dsimp only at hSw); go_simp⟩) (by assumption) ?_
      simp only [Act.put, List.setIfInBounds_toArray, List.set_cons_zero, List.set_cons_succ]
      refine wpAnyH_done (by kernel_rfl) ?_ _
      clear q1 q2 q3 q4 HW1 HW2 HW3 HS1 HS2
      go_wp2_with fail
      refine ⟨⟨k + 1, Z2, by have := HK.out; omega, rfl, by go_num, HZ2, by rw [hQ2.out]; exact HW4⟩, ?_⟩
      have := HK.out
      simp [intOf]; omega
    · obtain rfl : k = n := by omega
      go_wp2_with fail
      exact bodyPost_ret (v := .float .f64 s0) (by simp [results, Try.results58, go_sem]) rfl ⟨⟨s0, rfl, HS.out⟩, HW.out⟩
end Go.Proofs.Ythakhmnlpmfdgaa
