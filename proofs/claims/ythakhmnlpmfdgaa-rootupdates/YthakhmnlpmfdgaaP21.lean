
/- matrix: mirrored, of each of its closures. (Written by mkmx.py.) -/
import Derived.Test.YthakhmnlpmfdgaaP20
namespace Go.Proofs.Ythakhmnlpmfdgaa
open Go.RowKit Go.IntWalk

/-- One place and the one mirrored. -/
def MirP (P : Nat → Nat → Nat → Prop) (n : Nat) (o : Nat → Nat) (a b : Nat) : Prop := (P a b (o (a * n + b)) ∧ o (a * n + b) < 18446744073709551616) ∧ o (b * n + a) = o (a * n + b)
def MirR (P : Nat → Nat → Nat → Prop) (n N B : Nat) (e : Ending) (w' : World) : Prop := ∃ (g : Nat) (o : Nat → Nat), e = .returned (MV n n (some ⟨g, 0, none⟩) N N) ∧ B ≤ g ∧ w'.rowIs g 28 N (fun k => .float .f64 (o k)) ∧ ∀ i j, i < n → j ≤ i → MirP P n o i j
theorem mir_step {P : Nat → Nat → Nat → Prop} {n i j k l x : Nat} {o2 : Nat → Nat} (hj1 : j < i + 1) (hi1 : i < n) (hk : i * n + j = k) (hl : j * n + i = l) (hX : ∀ {y : Nat}, y = x → P i j y ∧ y < 18446744073709551616) {a b : Nat} (hab : a < i ∨ (a = i ∧ b < j + 1)) (hb : b ≤ a) (ho : ∀ a b, (a < i ∨ (a = i ∧ b < j)) → b ≤ a → MirP P n o2 a b) :
    MirP P n (fun t => if t = l then x else if t = k then x else o2 t) a b := by
  have ha : a < n := by omega
  have hbn : b < n := by omega
  have hjn : j < n := by omega
  by_cases h : a = i ∧ b = j
  · obtain ⟨rfl, rfl⟩ := h
    have e1 : (if a * n + b = l then x else if a * n + b = k then x else o2 (a * n + b)) = x := by
      by_cases c : a * n + b = l
      · rw [if_pos c]
      · rw [if_neg c, if_pos hk]
    have e2 : (if b * n + a = l then x else if b * n + a = k then x else o2 (b * n + a)) = x := by rw [if_pos hl]
    exact ⟨hX e1, by dsimp only; rw [e1, e2]⟩
  · have n1 : a * n + b ≠ k := fun c => h (place_ne hbn hjn (c.trans hk.symm))
    have n2 : a * n + b ≠ l := fun c => by
      have := place_ne hbn hi1 (c.trans hl.symm)
      exact h ⟨by omega, by omega⟩
    have n3 : b * n + a ≠ k := fun c => by
      have := place_ne ha hjn (c.trans hk.symm)
      exact h ⟨by omega, by omega⟩
    have n4 : b * n + a ≠ l := fun c => by
      have := place_ne ha hi1 (c.trans hl.symm)
      exact h ⟨by omega, by omega⟩
    have e1 : (if a * n + b = l then x else if a * n + b = k then x else o2 (a * n + b)) = o2 (a * n + b) := by rw [if_neg n2, if_neg n1]
    have e2 : (if b * n + a = l then x else if b * n + a = k then x else o2 (b * n + a)) = o2 (b * n + a) := by rw [if_neg n4, if_neg n3]
    obtain ⟨q1, q2⟩ := ho a b (by omega) hb
    exact ⟨by dsimp only; rw [e1]; exact q1, by dsimp only; rw [e1, e2]; exact q2⟩
end Go.Proofs.Ythakhmnlpmfdgaa

namespace Go.Proofs.Ythakhmnlpmfdgaa
open Go.RowKit Go.IntWalk

/-- A dot product in order, of canonical numbers. -/
def dotM (f g : Nat → Nat) : Nat → Nat
  | 0 => 0
  | k + 1 => caf .add (dotM f g k) (caf .mul (canonOf (f k)) (canonOf (g k)))
theorem dotM_congr {f g f2 g2 : Nat → Nat} (n : Nat) (h1 : ∀ k, k < n → f k = f2 k) (h2 : ∀ k, k < n → g k = g2 k) : dotM f g n = dotM f2 g2 n := by
  induction n with
  | zero => rfl
  | succ n ih => rw [dotM, dotM, ih (fun k hk => h1 k (by omega)) (fun k hk => h2 k (by omega)), h1 n (by omega), h2 n (by omega)]
set_option maxHeartbeats 2000000 in
theorem dot_some (b off b2 off2 N ca cb : Nat) (f g : Nat → Nat) (w : World) (hN : N ≤ 17592186043904) (hb1 : b < w.heap.size) (hb2 : b2 < w.heap.size) (hc1 : ∀ j, j < N → w.cell? ⟨b, off + j, none⟩ = some (.float .f64 (f j)) ∧ f j < 18446744073709551616) (hc2 : ∀ j, j < N → w.cell? ⟨b2, off2 + j, none⟩ = some (.float .f64 (g j)) ∧ g j < 18446744073709551616) :
    Calls Try.prog 80 #[.slice (some ⟨b, off, none⟩) N ca, .slice (some ⟨b2, off2, none⟩) N cb] w fun e w' => ∃ z : Nat, e = .returned (.float .f64 z) ∧ (z < 18446744073709551616 ∧ canonOf z = dotM f g N) ∧ Below w.heap.size w w' := by
  have r1 := ar_run .add ok_a
  have r3 := ar_run .mul ok_m
  have HC1 := hid hc1
  have HC2 := hid hc2
  have HB1 := hid hb1
  have HB2 := hid hb2
  clear hc1 hc2 hb1 hb2
  go_enter Try.func80, Try.ntmps80
  go_wp2_with fail
  go_loopw [5, 9] (fun s i wr => ∃ k s0 : Nat, k ≤ N ∧ s = .float .f64 s0 ∧ i = .int .i64 k ∧ Hid (s0 < 18446744073709551616 ∧ canonOf s0 = dotM f g k) ∧ Hid (Below w.heap.size w wr)) (fun _ i _ => N - (intOf i).toNat)
  case atStart => exact ⟨0, 0, Nat.zero_le _, rfl, rfl, ⟨by decide, by show canonOf 0 = 0; decide⟩, Below.refl _ _⟩
  case round =>
    obtain ⟨k, s0, hk, rfl, rfl, HS, HBW⟩ := hrel
    by_cases hlt : k < N
    · have HKS : Hid (∀ W, Hid (Below w.heap.size w W) → (W.cell? ⟨b, off + k, none⟩ = some (.float .f64 (f k)) ∧ W.cell? ⟨b2, off2 + k, none⟩ = some (.float .f64 (g k))) ∧ Hid (Below w.heap.size w W)) := fun W hW => ⟨⟨(hW.out.cell (p := ⟨b, off + k, none⟩) HB1.out).trans (HC1.out k hlt).1, (hW.out.cell (p := ⟨b2, off2 + k, none⟩) HB2.out).trans (HC2.out k hlt).1⟩, hW⟩
      have hx := (HC1.out k hlt).2
      have hy := (HC2.out k hlt).2
      have HD : Hid (∀ W W', arF .add s0 (arF .mul (f k) (g k) W) W' < 18446744073709551616 ∧ canonOf (arF .add s0 (arF .mul (f k) (g k) W) W') = dotM f g (k + 1)) := fun W W' => ⟨arF_lt ok_a _ _ _, by rw [canon_ar ok_a _ _ _ HS.out.1 (arF_lt ok_m _ _ _), canon_ar ok_m _ _ _ hx hy, HS.out.2]; rfl⟩
      obtain ⟨x, hxx⟩ : ∃ x, Hid (f k = x) := ⟨_, rfl⟩
      obtain ⟨y, hyy⟩ : ∃ y, Hid (g k = y) := ⟨_, rfl⟩
      rw [hxx.out, hyy.out] at HKS HD
      have hkI : (k : Int) < (N : Int) := by omega
      have hk0 : (0 : Int) ≤ (k : Int) := by omega
      have HQ0 : Hid (Below w.heap.size w wr.drew) := HBW.out.drew
      have HQ1 : Hid (Below w.heap.size w (arG .mul x y wr.drew)) := bl_ar HQ0.out _ _ _
      have HQ2 : Hid (Below w.heap.size w (arG .add s0 (arF .mul x y wr.drew) (arG .mul x y wr.drew))) := bl_ar HQ1.out _ _ _
      have HK := hid hlt
      clear hx hy hlt
      go_wp2_with fail
      refine wp_region_held_drew (S := fun W => (W.cell? ⟨b, off + k, none⟩ = some (.float .f64 x) ∧ W.cell? ⟨b2, off2 + k, none⟩ = some (.float .f64 y)) ∧ Hid (Below w.heap.size w W)) (by kernel_rfl) (HKS.out _ HQ0) (fun hHeld => ?_)
      refine take_at 0 12 (.float .f64 s0) rfl rfl (by kernel_rfl) (by kernel_rfl) (by kernel_rfl) (fun _ _ _ h => h) (Or.inl ⟨by rfl, fun w hSw => by (try dsimp only at hSw); go_simp⟩) (by assumption) ?_
      simp only [Act.put, List.setIfInBounds_toArray, List.set_cons_zero, List.set_cons_succ]
      refine take_at 1 13 (.slice (some ⟨b, off, none⟩) N ca) rfl rfl (by kernel_rfl) (by kernel_rfl) (by kernel_rfl) (fun _ _ _ h => h) (Or.inl ⟨by rfl, fun w hSw => by (try dsimp only at hSw); go_simp⟩) (by assumption) ?_
      simp only [Act.put, List.setIfInBounds_toArray, List.set_cons_zero, List.set_cons_succ]
      refine take_at 2 14 (.int .i64 k) rfl rfl (by kernel_rfl) (by kernel_rfl) (by kernel_rfl) (fun _ _ _ h => h) (Or.inl ⟨by rfl, fun w hSw => by (try dsimp only at hSw); go_simp⟩) (by assumption) ?_
      simp only [Act.put, List.setIfInBounds_toArray, List.set_cons_zero, List.set_cons_succ]
      refine take_at 3 15 (.pointer (some ⟨b, off + k, none⟩)) rfl rfl (by kernel_rfl) (by kernel_rfl) (by kernel_rfl) (fun _ _ _ h => h) (Or.inl ⟨by rfl, fun w hSw => by (try dsimp only at hSw); go_simp⟩) (by assumption) ?_
      simp only [Act.put, List.setIfInBounds_toArray, List.set_cons_zero, List.set_cons_succ]
      refine take_at 4 16 (.float .f64 x) rfl rfl (by kernel_rfl) (by kernel_rfl) (by kernel_rfl) (fun _ _ _ h => h) (Or.inl ⟨by rfl, fun w hSw => by (try dsimp only at hSw); go_simp⟩) (by assumption) ?_
      simp only [Act.put, List.setIfInBounds_toArray, List.set_cons_zero, List.set_cons_succ]
      refine take_at 5 17 (.slice (some ⟨b2, off2, none⟩) N cb) rfl rfl (by kernel_rfl) (by kernel_rfl) (by kernel_rfl) (fun _ _ _ h => h) (Or.inl ⟨by rfl, fun w hSw => by (try dsimp only at hSw); go_simp⟩) (by assumption) ?_
      simp only [Act.put, List.setIfInBounds_toArray, List.set_cons_zero, List.set_cons_succ]
      refine take_at 6 18 (.int .i64 k) rfl rfl (by kernel_rfl) (by kernel_rfl) (by kernel_rfl) (fun _ _ _ h => h) (Or.inl ⟨by rfl, fun w hSw => by (try dsimp only at hSw); go_simp⟩) (by assumption) ?_
      simp only [Act.put, List.setIfInBounds_toArray, List.set_cons_zero, List.set_cons_succ]
      refine take_at 7 19 (.pointer (some ⟨b2, off2 + k, none⟩)) rfl rfl (by kernel_rfl) (by kernel_rfl) (by kernel_rfl) (fun _ _ _ h => h) (Or.inl ⟨by rfl, fun w hSw => by (try dsimp only at hSw); go_simp⟩) (by assumption) ?_
      simp only [Act.put, List.setIfInBounds_toArray, List.set_cons_zero, List.set_cons_succ]
      refine take_at 8 20 (.float .f64 y) rfl rfl (by kernel_rfl) (by kernel_rfl) (by kernel_rfl) (fun _ _ _ h => h) (Or.inl ⟨by rfl, fun w hSw => by (try dsimp only at hSw); go_simp⟩) (by assumption) ?_
      simp only [Act.put, List.setIfInBounds_toArray, List.set_cons_zero, List.set_cons_succ]
      refine wpAnyH_ready (rs := [9]) (by kernel_rfl) (by simp) ?_
      refine AllReadyH.cons (o := _) rfl (fun K hK => ?_) AllReadyH.nil
      go_simp
      go_wp2_with fail
      refine hK.out _ _ (HKS.out _ HQ1) (fun hHeld1 => ?_)
      clear hK K
      try simp only [Act.put, List.setIfInBounds_toArray, List.set_cons_zero, List.set_cons_succ]
      refine wpAnyH_ready (rs := [10]) (by kernel_rfl) (by simp) ?_
      refine AllReadyH.cons (o := _) rfl (fun K hK => ?_) AllReadyH.nil
      go_simp
      go_wp2_with fail
      refine hK.out _ _ (HKS.out _ HQ2) (fun hHeld2 => ?_)
      clear hK K
      try simp only [Act.put, List.setIfInBounds_toArray, List.set_cons_zero, List.set_cons_succ]
      refine take_at 11 5 (.float .f64 (arF .add s0 (arF .mul x y wr.drew) (arG .mul x y wr.drew))) rfl rfl (by kernel_rfl) (by kernel_rfl) (by kernel_rfl) (fun _ _ _ h => h) (Or.inl ⟨by rfl, fun w hSw => by (try dsimp only at hSw); go_simp⟩) (by assumption) ?_
      simp only [Act.put, List.setIfInBounds_toArray, List.set_cons_zero, List.set_cons_succ]
      refine wpAnyH_done (by kernel_rfl) ?_ _
      go_wp2_with fail
      have hk1 := HK.out
      refine ⟨⟨k + 1, _, by omega, rfl, by go_num, HD.out _ _, HQ2⟩, ?_⟩
      simp [intOf]; omega
    · obtain rfl : k = N := by omega
      go_wp2_with fail
      go_ret
      exact ⟨_, rfl, HS.out, HBW.out⟩
end Go.Proofs.Ythakhmnlpmfdgaa

namespace Go.Proofs.Ythakhmnlpmfdgaa
open Go.RowKit Go.IntWalk

/-- Numbers in a list, of any place, told by a function; nil or not. -/
def FnM (w : World) (sa : Option Addr) (n cap : Nat) (f : Nat → Nat) : Prop := (sa = none ∧ n = 0 ∧ cap = 0) ∨ ∃ b off, sa = some ⟨b, off, none⟩ ∧ b < w.heap.size ∧ n ≤ cap ∧ cap ≤ 9223372036854775807 ∧ ∀ j, j < n → w.cell? ⟨b, off + j, none⟩ = some (.float .f64 (f j)) ∧ f j < 18446744073709551616
theorem FnM.below {w w' : World} {sa : Option Addr} {n cap : Nat} {f : Nat → Nat} (h : FnM w sa n cap f) (hb : Below w.heap.size w w') : FnM w' sa n cap f := by
  rcases h with h | ⟨b, off, h3, h4, h5, h6, h7⟩
  · exact Or.inl h
  · exact Or.inr ⟨b, off, h3, Nat.lt_of_lt_of_le h4 hb.size, h5, h6, fun j hj => ⟨by rw [hb.cell (p := ⟨b, off + j, none⟩) h4]; exact (h7 j hj).1, (h7 j hj).2⟩⟩
theorem FlM.fn {w : World} {sa : Option Addr} {n cap : Nat} {xs : List Nat} (h : FlM w sa n cap xs) : FnM w sa n cap (fun j => xs.getD j 0) := by
  obtain ⟨h1, h2, h3 | ⟨b, off, h3, h4, h5, h6, h7⟩⟩ := h
  · exact Or.inl h3
  · exact Or.inr ⟨b, off, h3, h4, h5, h6, fun j hj => ⟨h7 j hj, h2 _ (mem_getM xs j (by omega))⟩⟩
theorem FnM.fl {w : World} {sa : Option Addr} {n cap : Nat} {f : Nat → Nat} (h : FnM w sa n cap f) : FlM w sa n cap ((List.range n).map f) := by
  refine ⟨by simp, fun x hx => ?_, ?_⟩
  · obtain ⟨j, hj, rfl⟩ := List.mem_map.1 hx
    rw [List.mem_range] at hj
    rcases h with ⟨_, h2, _⟩ | ⟨b, off, _, _, _, _, h7⟩
    · omega
    · exact (h7 j hj).2
  · rcases h with h | ⟨b, off, h3, h4, h5, h6, h7⟩
    · exact Or.inl h
    · refine Or.inr ⟨b, off, h3, h4, h5, h6, fun j hj => ?_⟩
      rw [(h7 j hj).1, List.getD_eq_getElem?_getD, List.getElem?_map, List.getElem?_range hj]
      rfl
theorem FnM.congr {w : World} {sa : Option Addr} {n cap : Nat} {f g : Nat → Nat} (h : FnM w sa n cap f) (hg : ∀ j, j < n → f j = g j) : FnM w sa n cap g := by
  rcases h with h | ⟨b, off, h3, h4, h5, h6, h7⟩
  · exact Or.inl h
  · exact Or.inr ⟨b, off, h3, h4, h5, h6, fun j hj => by rw [← hg j hj]; exact h7 j hj⟩
set_option maxHeartbeats 400000 in
theorem dot_zero (sa sb : Option Addr) (ca cb : Nat) (w : World) : Calls Try.prog 80 #[.slice sa 0 ca, .slice sb 0 cb] w fun e w' => e = .returned (.float .f64 0) ∧ Below w.heap.size w w' := by
  go_enter Try.func80, Try.ntmps80
  go_wp2_with fail
  go_loopw [5, 9] (fun s i wr => s = .float .f64 0 ∧ i = .int .i64 0 ∧ Below w.heap.size w wr) (fun _ _ _ => 0)
  case atStart => exact ⟨rfl, rfl, Below.refl _ _⟩
  case round =>
    obtain ⟨rfl, rfl, hb⟩ := hrel
    go_wp2_with fail
    go_ret
    exact ⟨rfl, hb⟩
theorem dot_any (sa sb : Option Addr) (n ca cb : Nat) (f g : Nat → Nat) (w : World) (hn : n ≤ 17592186043904) (ha : FnM w sa n ca f) (hb : FnM w sb n cb g) : Calls Try.prog 80 #[.slice sa n ca, .slice sb n cb] w fun e w' => ∃ z : Nat, e = .returned (.float .f64 z) ∧ (z < 18446744073709551616 ∧ canonOf z = dotM f g n) ∧ Below w.heap.size w w' := by
  by_cases h : n = 0
  · subst h
    refine (dot_zero sa sb ca cb w).mono ?_
    rintro e w' ⟨rfl, h2⟩
    exact ⟨0, rfl, ⟨by decide, by show canonOf 0 = 0; decide⟩, h2⟩
  · rcases ha with ⟨_, h2, _⟩ | ⟨b, off, rfl, q1, _, _, q4⟩
    · exact absurd h2 h
    rcases hb with ⟨_, h2, _⟩ | ⟨b2, off2, rfl, q5, _, _, q8⟩
    · exact absurd h2 h
    exact dot_some b off b2 off2 n ca cb f g w hn q1 q5 q4 q8
set_option maxHeartbeats 1000000 in
theorem row_nil (r : Int) (i : Nat) (hi : i ≤ 100) (w : World) : Calls Try.prog 96 #[MV r (0 : Nat) none 0 0, .int .i64 i] w fun e w' => e = .returned (.slice none 0 0) ∧ Below w.heap.size w w' := by
  have HB : Hid (Below w.heap.size w (w.alloc (MBox r (0 : Nat) none 0 0))) := (Below.refl _ _).alloc (Nat.le_refl _) _
  obtain ⟨i1, hi1⟩ : ∃ t, Hid (i + 1 = t) := ⟨_, rfl⟩
  have e1 : IntKind.i64.wrap ((i : Int) + 1) = (i1 : Int) := by have := hi1.out; rw [IntWalk.i64_in _ (by omega)]; omega
  have e2 : (i : Int) + 1 = (i1 : Int) := by have := hi1.out; omega
  unfold MBox at HB
  unfold MV
  clear hi
  go_enter Try.func96, Try.ntmps96
  go_wp2_with fail
  go_ret
  exact ⟨rfl, HB.out⟩
set_option maxHeartbeats 1000000 in
theorem row_some (r : Int) (b off c n cap i : Nat) (f : Nat → Nat) (w : World) (hi : i ≤ 100) (hc : c ≤ 100) (hn : (i + 1) * c ≤ n) (hcap : n ≤ cap) (hmax : cap ≤ 9223372036854775807) (hb : b < w.heap.size) (hcell : ∀ j, j < n → w.cell? ⟨b, off + j, none⟩ = some (.float .f64 (f j)) ∧ f j < 18446744073709551616) :
    Calls Try.prog 96 #[MV r c (some ⟨b, off, none⟩) n cap, .int .i64 i] w fun e w' => (∃ sa' cap', e = .returned (.slice sa' c cap') ∧ FnM w' sa' c cap' (fun j => f (i * c + j))) ∧ Below w.heap.size w w' := by
  have HB : Hid (Below w.heap.size w (w.alloc (MBox r c (some ⟨b, off, none⟩) n cap))) := (Below.refl _ _).alloc (Nat.le_refl _) _
  obtain ⟨i1, hi1⟩ : ∃ t, Hid (i + 1 = t) := ⟨_, rfl⟩
  have e1 : IntKind.i64.wrap ((i : Int) + 1) = (i1 : Int) := by have := hi1.out; rw [IntWalk.i64_in _ (by omega)]; omega
  have e2 : (i : Int) + 1 = (i1 : Int) := by have := hi1.out; omega
  have hq0 : i * c + c = (i + 1) * c := by rw [Nat.add_mul, Nat.one_mul]
  have hp0 : (i + 1) * c ≤ 101 * 100 := Nat.mul_le_mul (by omega) hc
  obtain ⟨p, hp⟩ : ∃ t, Hid (i * c = t) := ⟨_, rfl⟩
  obtain ⟨q, hq⟩ : ∃ t, Hid ((i + 1) * c = t) := ⟨_, rfl⟩
  have e3 : (i : Int) * (c : Int) = (p : Int) := by rw [← hp.out]; simp
  have e4 : (i1 : Int) * (c : Int) = (q : Int) := by rw [← hq.out, ← hi1.out]; simp
  rw [hq.out] at hq0 hp0 hn
  rw [hp.out] at hq0
  have w1 := wrapM p (by omega)
  have w2 := wrapM q (by omega)
  have w3 := wrapM i1 (by have := hi1.out; omega)
  have t0 : (0 : Int) ≤ (p : Int) := by omega
  have t1 : (p : Int) ≤ (q : Int) := by omega
  have t2 : (q : Int) ≤ (cap : Int) := by omega
  have t3 : p ≤ q := by omega
  have t4 : q ≤ cap := by omega
  have t5 : q - p = c := by omega
  have t6 : (0 : Int) ≤ (q : Int) := by omega
  have HC : Hid (∀ W, Below w.heap.size w W → ∀ j, j < n → W.cell? ⟨b, off + j, none⟩ = some (.float .f64 (f j)) ∧ f j < 18446744073709551616) := fun W hW j hj => ⟨(hW.cell (p := ⟨b, off + j, none⟩) hb).trans (hcell j hj).1, (hcell j hj).2⟩
  have HL := hid (And.intro hn (And.intro hmax (And.intro hb hq0)))
  have HE : Hid (∀ j, i * c + j = p + j) := fun j => by rw [hp.out]
  unfold MBox at HB
  unfold MV
  clear hi hc hn hcap hmax hb hcell hp0 hq0
  by_cases h : cap = p
  · have HC0 : Hid (c = 0) := by show c = 0; omega
    subst h
    go_enter Try.func96, Try.ntmps96
    go_wp2_with fail
    go_ret
    have hc0 := HC0.out
    refine ⟨⟨_, _, rfl, Or.inr ⟨b, off, rfl, ?_, by omega, by decide, fun j hj => absurd hj (by omega)⟩⟩, HB.out⟩
    exact Nat.lt_of_lt_of_le HL.out.2.2.1 HB.out.size
  · go_enter Try.func96, Try.ntmps96
    go_wp2_with fail
    go_ret
    have hl := HL.out
    refine ⟨⟨_, _, rfl, Or.inr ⟨b, off + p, rfl, Nat.lt_of_lt_of_le hl.2.2.1 HB.out.size, by omega, by omega, fun j hj => ?_⟩⟩, HB.out⟩
    have := HC.out _ HB.out (p + j) (by omega)
    dsimp only
    rw [HE.out, Nat.add_assoc]
    exact this
theorem row_any (r : Int) (sa : Option Addr) (c n cap i : Nat) (f : Nat → Nat) (w : World) (h : FnM w sa n cap f) (hi : i ≤ 100) (hc : c ≤ 100) (hn : (i + 1) * c ≤ n) :
    Calls Try.prog 96 #[MV r c sa n cap, .int .i64 i] w fun e w' => (∃ sa' cap', e = .returned (.slice sa' c cap') ∧ FnM w' sa' c cap' (fun j => f (i * c + j))) ∧ Below w.heap.size w w' := by
  rcases h with ⟨rfl, rfl, rfl⟩ | ⟨b, off, rfl, h4, h5, h6, h7⟩
  · have hc0 : c = 0 := by
      rw [Nat.add_mul, Nat.one_mul] at hn
      omega
    subst hc0
    refine (row_nil r i hi w).mono ?_
    rintro e w' ⟨rfl, h2⟩
    exact ⟨⟨none, 0, rfl, Or.inl ⟨rfl, rfl, rfl⟩⟩, h2⟩
  · exact row_some r b off c n cap i f w hi hc hn h5 h6 h4 h7
theorem at_fn (r : Int) (sa : Option Addr) (c n cap i j : Nat) (f : Nat → Nat) (w : World) (h : FnM w sa n cap f) (hi : i ≤ 100) (hc : c ≤ 100) (hj : j ≤ 100) (hk : i * c + j < n) : Calls Try.prog 72 #[MV r c sa n cap, .int .i64 i, .int .i64 j] w fun r w' => r = .returned (.float .f64 (f (i * c + j))) ∧ Below w.heap.size w w' := by
  have := at_any r sa c n cap i j _ w h.fl hi hc hj hk
  rw [show ((List.range n).map f).getD (i * c + j) 0 = f (i * c + j) by rw [List.getD_eq_getElem?_getD, List.getElem?_map, List.getElem?_range hk]; rfl] at this
  exact this
theorem fn_lt {w : World} {sa : Option Addr} {n cap : Nat} {f : Nat → Nat} (h : FnM w sa n cap f) (j : Nat) (hj : j < n) : f j < 18446744073709551616 := by
  rcases h with ⟨_, h2, _⟩ | ⟨_, _, _, _, _, _, h7⟩
  · omega
  · exact (h7 j hj).2
set_option maxRecDepth 4000 in
set_option maxHeartbeats 2000000 in
theorem clo_byRows (i j c : Nat) (p0 p1 : Nat) (ra rb : Nat) (sa sb : Option Addr) (na ka nb kb : Nat) (f g : Nat → Nat) (w : World) (h0 : w.heap[p0]? = some (MBox ra c sa na ka)) (h1 : w.heap[p1]? = some (MBox rb c sb nb kb)) (ha : FnM w sa na ka f) (hb : FnM w sb nb kb g) (hc : c ≤ 100) (hi : i ≤ 100) (hj : j ≤ 100) (hia : (i + 1) * c ≤ na) (hjb : (j + 1) * c ≤ nb) :
    Calls Try.prog 95 #[.int .i64 i, .int .i64 j, .pointer (some ⟨p0, 0, none⟩), .pointer (some ⟨p1, 0, none⟩)] w fun e w' => ∃ x : Nat, e = .returned (.float .f64 x) ∧ (x < 18446744073709551616 ∧ canonOf x = dotM (fun k => f (i * c + k)) (fun k => g (j * c + k)) c) ∧ Below w.heap.size w w' := by
  have HKS : Hid (∀ W, Hid (Below w.heap.size w W) → (W.cell? ⟨p0, 0, none⟩ = some (.int .i64 ra) ∧ W.cell? ⟨p0, 1, none⟩ = some (.int .i64 c) ∧ W.cell? ⟨p0, 2, none⟩ = some (.slice sa na ka) ∧ W.cell? ⟨p1, 0, none⟩ = some (.int .i64 rb) ∧ W.cell? ⟨p1, 1, none⟩ = some (.int .i64 c) ∧ W.cell? ⟨p1, 2, none⟩ = some (.slice sb nb kb)) ∧ Hid (Below w.heap.size w W)) := fun W hW => by
    obtain ⟨a0, a1, a2⟩ := mcells_of (w := W) ((hW.out.block _ (Array.getElem?_eq_some_iff.1 h0).1).trans h0)
    obtain ⟨b0, b1, b2⟩ := mcells_of (w := W) ((hW.out.block _ (Array.getElem?_eq_some_iff.1 h1).1).trans h1)
    exact ⟨⟨a0, a1, a2, b0, b1, b2⟩, hW⟩
  have HRA : Hid (∀ W, Hid (Below w.heap.size w W) → Calls Try.prog 96 #[.agg #[.int .i64 ra, .int .i64 c, .slice sa na ka], .int .i64 i] W fun e w' => (∃ sa' cap', e = .returned (.slice sa' c cap') ∧ FnM w' sa' c cap' (fun k => f (i * c + k))) ∧ Below W.heap.size W w') := fun W hW => row_any ra sa c na ka i f W (ha.below hW.out) hi hc hia
  have HRB : Hid (∀ W, Hid (Below w.heap.size w W) → Calls Try.prog 96 #[.agg #[.int .i64 rb, .int .i64 c, .slice sb nb kb], .int .i64 j] W fun e w' => (∃ sa' cap', e = .returned (.slice sa' c cap') ∧ FnM w' sa' c cap' (fun k => g (j * c + k))) ∧ Below W.heap.size W w') := fun W hW => row_any rb sb c nb kb j g W (hb.below hW.out) hj hc hjb
  have HCC : Hid (c ≤ 17592186043904) := by show c ≤ _; omega
  have HQ0 : Hid (Below w.heap.size w w.drew) := (Below.refl _ _).drew
  clear h0 h1 ha hb hc hi hj hia hjb
  go_enter Try.func95, Try.ntmps95
  go_wp2_with fail
  refine wp_region_held_drew (S := fun W => (W.cell? ⟨p0, 0, none⟩ = some (.int .i64 ra) ∧ W.cell? ⟨p0, 1, none⟩ = some (.int .i64 c) ∧ W.cell? ⟨p0, 2, none⟩ = some (.slice sa na ka) ∧ W.cell? ⟨p1, 0, none⟩ = some (.int .i64 rb) ∧ W.cell? ⟨p1, 1, none⟩ = some (.int .i64 c) ∧ W.cell? ⟨p1, 2, none⟩ = some (.slice sb nb kb)) ∧ Hid (Below w.heap.size w W)) (by kernel_rfl) (HKS.out _ HQ0) (fun hHeld => ?_)
  refine take_at 0 7 (.agg #[.int .i64 ra, .int .i64 c, .slice sa na ka]) rfl rfl (by kernel_rfl) (by kernel_rfl) (by kernel_rfl) (fun _ _ _ h => h) (Or.inl ⟨by rfl, fun w hSw => by (try dsimp only at hSw); go_simp⟩) (by assumption) ?_
  simp only [Act.put, List.setIfInBounds_toArray, List.set_cons_zero, List.set_cons_succ]
  refine take_at 1 8 (.int .i64 i) rfl rfl (by kernel_rfl) (by kernel_rfl) (by kernel_rfl) (fun _ _ _ h => h) (Or.inl ⟨by rfl, fun w hSw => by (try dsimp only at hSw); go_simp⟩) (by assumption) ?_
  simp only [Act.put, List.setIfInBounds_toArray, List.set_cons_zero, List.set_cons_succ]
  refine take_at 3 10 (.agg #[.int .i64 rb, .int .i64 c, .slice sb nb kb]) rfl rfl (by kernel_rfl) (by kernel_rfl) (by kernel_rfl) (fun _ _ _ h => h) (Or.inl ⟨by rfl, fun w hSw => by (try dsimp only at hSw); go_simp⟩) (by assumption) ?_
  simp only [Act.put, List.setIfInBounds_toArray, List.set_cons_zero, List.set_cons_succ]
  refine take_at 4 11 (.int .i64 j) rfl rfl (by kernel_rfl) (by kernel_rfl) (by kernel_rfl) (fun _ _ _ h => h) (Or.inl ⟨by rfl, fun w hSw => by (try dsimp only at hSw); go_simp⟩) (by assumption) ?_
  simp only [Act.put, List.setIfInBounds_toArray, List.set_cons_zero, List.set_cons_succ]
  refine wpAnyH_ready (rs := [2]) (by kernel_rfl) (by simp) ?_
  refine AllReadyH.cons (o := _) rfl (fun K hK => ?_) AllReadyH.nil
  go_simp
  refine (HRA.out _ HQ0).mono ?_
  rintro e u1 ⟨⟨s1, k1, rfl, hf1⟩, hb1⟩
  have HG1 : Hid (Below w.heap.size w u1) := HQ0.out.trans (hb1.mono HQ0.out.size)
  have HF1 := hid hf1
  clear hf1 hb1
  go_wp2_with fail
  refine hK.out _ _ (HKS.out _ HG1) (fun hHeld1 => ?_)
  clear hK K
  try simp only [Act.put, List.setIfInBounds_toArray, List.set_cons_zero, List.set_cons_succ]
  refine wpAnyH_ready (rs := [5]) (by kernel_rfl) (by simp) ?_
  refine AllReadyH.cons (o := _) rfl (fun K hK => ?_) AllReadyH.nil
  go_simp
  refine (HRB.out _ HG1).mono ?_
  rintro e u2 ⟨⟨s2, k2, rfl, hf2⟩, hb2⟩
  have HG2 : Hid (Below w.heap.size w u2) := HG1.out.trans (hb2.mono HG1.out.size)
  have HF1 := hid (HF1.out.below hb2)
  have HF2 := hid hf2
  clear hf2 hb2
  go_wp2_with fail
  refine hK.out _ _ (HKS.out _ HG2) (fun hHeld2 => ?_)
  clear hK K
  try simp only [Act.put, List.setIfInBounds_toArray, List.set_cons_zero, List.set_cons_succ]
  refine wpAnyH_ready (rs := [6]) (by kernel_rfl) (by simp) ?_
  refine AllReadyH.cons (o := _) rfl (fun K hK => ?_) AllReadyH.nil
  go_simp
  refine (dot_any s1 s2 c k1 k2 _ _ _ HCC.out HF1.out HF2.out).mono ?_
  rintro e u3 ⟨z, rfl, hz, hb3⟩
  have HG3 : Hid (Below w.heap.size w u3) := HG2.out.trans (hb3.mono HG2.out.size)
  have HZ := hid hz
  clear hz hb3
  go_wp2_with fail
  refine hK.out _ _ (HKS.out _ HG3) (fun hHeld3 => ?_)
  clear hK K
  try simp only [Act.put, List.setIfInBounds_toArray, List.set_cons_zero, List.set_cons_succ]
  refine take_at 7 6 (.float .f64 z) rfl rfl (by kernel_rfl) (by kernel_rfl) (by kernel_rfl) (fun _ _ _ h => h) (Or.inl ⟨by rfl, fun w hSw => by (try dsimp only at hSw); go_simp⟩) (by assumption) ?_
  simp only [Act.put, List.setIfInBounds_toArray, List.set_cons_zero, List.set_cons_succ]
  refine wpAnyH_done (by kernel_rfl) ?_ _
  go_wp2_with fail
  go_ret
  exact ⟨z, rfl, HZ.out, HG3.out⟩
set_option maxRecDepth 4000 in
set_option maxHeartbeats 2000000 in
theorem clo_turned (i j : Nat) (p0 : Nat) (ra ca : Nat) (sa : Option Addr) (na ka : Nat) (f : Nat → Nat) (w : World) (h0 : w.heap[p0]? = some (MBox ra ca sa na ka)) (ha : FnM w sa na ka f) (hc : ca ≤ 100) (hi : i ≤ 100) (hj : j ≤ 100) (hk : j * ca + i < na) :
    Calls Try.prog 94 #[.int .i64 i, .int .i64 j, .pointer (some ⟨p0, 0, none⟩)] w fun e w' => ∃ x : Nat, e = .returned (.float .f64 x) ∧ (x = f (j * ca + i) ∧ x < 18446744073709551616) ∧ Below w.heap.size w w' := by
  obtain ⟨a0, a1, a2⟩ := mcells_of h0
  have HAT := hid (at_fn ra sa ca na ka j i f w ha hj hc hi hk)
  have HLT := hid (fn_lt ha _ hk)
  unfold MV at HAT
  clear h0 ha hc hi hj hk
  go_enter Try.func94, Try.ntmps94
  go_wp2_with fail
  refine HAT.out.mono ?_
  rintro e w1 ⟨rfl, hb1⟩
  go_wp2_with fail
  go_ret
  exact ⟨_, rfl, ⟨rfl, HLT.out⟩, hb1⟩
end Go.Proofs.Ythakhmnlpmfdgaa
