
/- matrix.Of of any rows. (Written by mknfd.py.) -/
import Derived.Test.YtokeialkeadanaaP39
namespace Go.Proofs.Ytokeialkeadanaa
open Go.RowKit Go.IntWalk

/-- Rows of numbers, where they lie. -/
def LsF (W : World) (la : Option Addr) (n : Nat) (SA : Nat → Option Addr) (M K : Nat → Nat) (X : Nat → List Nat) : Prop := (∀ i, i < n → FlM W (SA i) (M i) (K i) (X i)) ∧ (n ≠ 0 → ∃ b off, la = some ⟨b, off, none⟩ ∧ b < W.heap.size ∧ ∀ i, i < n → W.cell? ⟨b, off + i, none⟩ = some (.slice (SA i) (M i) (K i)))
theorem LsF.below {W W' : World} {la : Option Addr} {n : Nat} {SA : Nat → Option Addr} {M K : Nat → Nat} {X : Nat → List Nat} (h : LsF W la n SA M K X) (hb : Below W.heap.size W W') : LsF W' la n SA M K X := by
  refine ⟨fun i hi => (h.1 i hi).below hb, fun hn => ?_⟩
  obtain ⟨b, off, e, hl, hc⟩ := h.2 hn
  refine ⟨b, off, e, Nat.lt_of_lt_of_le hl hb.size, fun i hi => ?_⟩
  rw [hb.cell (p := ⟨b, off + i, none⟩) hl]
  exact hc i hi
/-- A variable with rows. -/
def LlB (la : Option Addr) (n lc : Nat) : Obj := .cells #[.slice la n lc] 26
theorem llcell_of {w : World} {b : Nat} {pa : Option Addr} {m pc : Nat} (h : w.heap[b]? = some (LlB pa m pc)) : w.cell? ⟨b, 0, none⟩ = some (.slice pa m pc) := by
  unfold LlB at h
  simp [World.cell?, h]
theorem below_p {w W : World} {p : Nat} (h : Below w.heap.size w W) (e : w.heap.size = p) : Below w.heap.size w W ∧ Below p w W := ⟨h, by rw [← e]; exact h⟩
/-- Are the first ones as long as the very first? Are they finite? -/
def samB (M : Nat → Nat) : Nat → Bool
  | 0 => true
  | k + 1 => samB M k && decide (M k = M 0)
def allF (X : Nat → List Nat) : Nat → Bool
  | 0 => true
  | k + 1 => allF X k && finM (X k)
theorem sam_at {M : Nat → Nat} : ∀ {n i : Nat}, samB M n = true → i < n → M i = M 0
  | 0, _, _, h => absurd h (Nat.not_lt_zero _)
  | n + 1, i, h, hi => by
    have h' : (samB M n && decide (M n = M 0)) = true := h
    rw [Bool.and_eq_true, decide_eq_true_eq] at h'
    by_cases c : i = n
    · subst c; exact h'.2
    · exact sam_at h'.1 (by omega)
theorem sam_no {M : Nat → Nat} : ∀ {n i : Nat}, i < n → M i ≠ M 0 → samB M n = false
  | 0, _, h, _ => absurd h (Nat.not_lt_zero _)
  | n + 1, i, hi, h => by
    show (samB M n && decide (M n = M 0)) = false
    by_cases c : i = n
    · subst c; rw [decide_eq_false h]; simp
    · rw [sam_no (n := n) (by omega) h]; rfl
theorem all_at {X : Nat → List Nat} : ∀ {n i : Nat}, allF X n = true → i < n → finM (X i) = true
  | 0, _, _, h => absurd h (Nat.not_lt_zero _)
  | n + 1, i, h, hi => by
    have h' : (allF X n && finM (X n)) = true := h
    rw [Bool.and_eq_true] at h'
    by_cases c : i = n
    · subst c; exact h'.2
    · exact all_at h'.1 (by omega)
theorem all_of {X : Nat → List Nat} : ∀ {n : Nat}, (∀ i, i < n → finM (X i) = true) → allF X n = true
  | 0, _ => rfl
  | n + 1, h => by
    show (allF X n && finM (X n)) = true
    rw [all_of (fun i hi => h i (by omega)), h n (by omega)]; rfl
theorem finM_iff (zs : List Nat) : finM zs = true ↔ ∀ k, k < zs.length → (expOf (zs.getD k 0) == 2047) = false := by
  unfold finM
  rw [List.all_eq_true]
  constructor
  · intro h k hk
    have := h _ (mem_getM zs k hk)
    simpa using this
  · intro h z hz
    obtain ⟨k, hk, rfl⟩ := List.mem_iff_getElem.1 hz
    have := h k hk
    rw [List.getD_eq_getElem?_getD, List.getElem?_eq_getElem hk] at this
    simpa using this
theorem all_fin {X : Nat → List Nat} {M : Nat → Nat} {n c : Nat} {o : Nat → Nat} (hl : ∀ i, i < n → (X i).length = M i) (hs : samB M n = true) (hc : M 0 = c) (h : ∀ i j, i < n → j < c → o (i * c + j) = (X i).getD j 0) : finF (n * c) o = allF X n := by
  rw [Bool.eq_iff_iff, finF_iff]
  constructor
  · intro h1
    refine all_of (fun i hi => (finM_iff _).2 (fun k hk => ?_))
    rw [hl i hi, sam_at hs hi, hc] at hk
    have := h1 _ (place_lt hi hk)
    rw [h i k hi hk] at this
    exact this
  · intro h1 k hk
    obtain ⟨q1, q2, q3⟩ := split_k hk
    rw [← q3, h _ _ q1 q2]
    exact (finM_iff _).1 (all_at h1 q1) _ (by rw [hl _ q1, sam_at hs q1, hc]; exact q2)
def ofV (X : Nat → List Nat) (i j : Nat) : Nat := canonOf ((X i).getD j 0)
theorem ResM.any {c : Nat} {v v2 : Nat → Nat → Nat} {W : World} {X0 X1 : Int} {X2 : Option Addr} {X3 X4 : Nat} (h : ResM 0 0 c v W X0 X1 X2 X3 X4) : ResM 0 0 c v2 W X0 X1 X2 X3 X4 := by
  rcases h with ⟨h0, h1, h2, h3, h4, g, o, h5, h6, _, h8⟩ | ⟨h, _⟩
  · exact Or.inl ⟨h0, h1, h2, h3, h4, g, o, h5, h6, fun i j hi => absurd hi (Nat.not_lt_zero _), h8⟩
  · exact absurd rfl h
/-- What Of hands back, of rows and columns that may be. -/
def OfR (n c : Nat) (M : Nat → Nat) (X : Nat → List Nat) (e : Ending) (w' : World) : Prop := (samB M n = false ∧ e = .returned (.tuple #[.agg #[.int .i64 0, .int .i64 0, .slice none 0 0], .int .i64 3])) ∨ (samB M n = true ∧ allF X n = false ∧ e = .returned (.tuple #[.agg #[.int .i64 0, .int .i64 0, .slice none 0 0], .int .i64 4])) ∨ (samB M n = true ∧ allF X n = true ∧ ∃ (g : Nat) (o : Nat → Nat), e = .returned (.tuple #[.agg #[.int .i64 n, .int .i64 c, .slice (some ⟨g, 0, none⟩) (n * c) (n * c)], .int .i64 0]) ∧ FnM w' (some ⟨g, 0, none⟩) (n * c) (n * c) o ∧ ∀ i j, i < n → j < c → o (i * c + j) = (X i).getD j 0)
set_option maxRecDepth 4000 in
set_option maxHeartbeats 2000000 in
theorem fill_Of (r c : Nat) (hr : r ≤ 100) (hc : c ≤ 100) (p0 : Addr) (P : Nat → Nat → Nat → Prop) (w : World)
    (hF : ∀ W i j, Below w.heap.size w W → i < r → j < c → Calls Try.prog 41 #[.int .i64 (i : Nat), .int .i64 (j : Nat), .pointer (some p0)] W fun e w' => ∃ x : Nat, e = .returned (.float .f64 x) ∧ (P i j x ∧ x < 18446744073709551616) ∧ Below W.heap.size W w') :
    Calls Try.prog 40 #[.int .i64 r, .int .i64 c, .func (.func 41) #[] #[.pointer (some p0)]] w fun e w' => FillR P r c (r * c) w.heap.size e w' ∧ Below w.heap.size w w' := by
  have HF := hid hF
  have hst := fstoreM
  have hpp : r * c ≤ 10000 := Nat.mul_le_mul hr hc
  have HZ := hid (fun W => zeros_any r c hr hc W)
  have HPL : Hid (∀ i j, i < r → j < c → i * c + j < r * c) := fun i j hi hj => place_lt hi hj
  obtain ⟨N, hN⟩ : ∃ p, Hid (r * c = p) := ⟨_, rfl⟩
  rw [hN.out] at hpp HZ HPL ⊢
  clear hF
  go_enter Try.func40, Try.ntmps40
  go_wp2_with fail
  refine (HZ.out _).mono ?_
  rintro e w1 ⟨rfl, h1, h2⟩
  rw [World.size_alloc] at h1 ⊢
  have HSZ : Hid (w.heap.size + 1 + 1 < w1.heap.size) := h1.lt
  have hal : Below w1.heap.size w1 (w1.alloc (MBox r c (some ⟨w.heap.size + 1 + 1, 0, none⟩) N N)) := (Below.refl _ _).alloc (Nat.le_refl _) _
  have HFR : Hid (FrF w (w1.alloc (MBox r c (some ⟨w.heap.size + 1 + 1, 0, none⟩) N N)) w1.heap.size w.heap.size (MBox r c (some ⟨w.heap.size + 1 + 1, 0, none⟩) N N) (MBox 0 0 none 0 0)) :=
    ⟨(((Below.refl _ _).alloc (Nat.le_refl _) _).trans (h2.mono (by simp))).alloc (by have := HSZ.out; omega) _, nblkM _ _, (hal.block _ (by have := HSZ.out; omega)).trans ((h2.block _ (by simp)).trans (nblkM _ _))⟩
  have HR0 : Hid ((w1.alloc (MBox r c (some ⟨w.heap.size + 1 + 1, 0, none⟩) N N)).rowIs (w.heap.size + 1 + 1) 57 N (fun _ => .float .f64 0)) := h1.of_block (hal.block _ HSZ.out)
  obtain ⟨V1, hV1⟩ : ∃ V, Hid (w1.alloc (MBox r c (some ⟨w.heap.size + 1 + 1, 0, none⟩) N N) = V) := ⟨_, rfl⟩
  rw [hV1.out] at HFR HR0
  have hW1 := hV1.out
  obtain ⟨mb, hmb⟩ : ∃ V, Hid (w1.heap.size = V) := ⟨_, rfl⟩
  obtain ⟨rb, hrb⟩ : ∃ V, Hid (w.heap.size = V) := ⟨_, rfl⟩
  obtain ⟨g, hg⟩ : ∃ V, Hid (rb + 1 + 1 = V) := ⟨_, rfl⟩
  have HNE : Hid (mb ≠ g ∧ rb ≠ g ∧ w.heap.size ≤ g) := by
    have e1 := hmb.out; have e2 := hrb.out; have e3 := hg.out; have e4 := HSZ.out
    show _ ∧ _ ∧ _
    omega
  rw [hmb.out, hrb.out] at HFR
  rw [hrb.out] at HR0 hW1 ⊢
  rw [hg.out] at HFR HR0 hW1 ⊢
  have hmb1 := hmb.out
  have hrb1 := hrb.out
  unfold MBox at hW1
  unfold MV
  clear h1 h2 hal HZ
  go_wp2_with fail
  go_loopw [14] (fun iv wr => ∃ (i : Nat) (o : Nat → Nat), i ≤ r ∧ iv = .int .i64 i ∧ Hid (wr.rowIs g 57 N (fun k => .float .f64 (o k))) ∧ Hid (∀ a b, a < i → b < c → P a b (o (a * c + b)) ∧ o (a * c + b) < 18446744073709551616) ∧ Hid (FrF w wr mb rb (MBox r c (some ⟨g, 0, none⟩) N N) (MBox 0 0 none 0 0))) (fun iv _ => r - (intOf iv).toNat)
  case atStart => exact ⟨0, fun _ => 0, Nat.zero_le _, rfl, HR0, fun a b ha => absurd ha (Nat.not_lt_zero a), HFR⟩
  case round =>
    obtain ⟨i, o, hi, rfl, HR, HP, HFW⟩ := hrel
    by_cases hlt : i < r
    · have hiI : (i : Int) < (r : Int) := by omega
      have HI := hid hlt
      clear hlt
      go_wp2_with fail
      go_loopw [18] (fun jv wr2 => ∃ (j : Nat) (o2 : Nat → Nat), j ≤ c ∧ jv = .int .i64 j ∧ Hid (wr2.rowIs g 57 N (fun k => .float .f64 (o2 k))) ∧ Hid (∀ a b, (a < i ∨ (a = i ∧ b < j)) → b < c → P a b (o2 (a * c + b)) ∧ o2 (a * c + b) < 18446744073709551616) ∧ Hid (FrF w wr2 mb rb (MBox r c (some ⟨g, 0, none⟩) N N) (MBox 0 0 none 0 0))) (fun jv _ => c - (intOf jv).toNat)
      case atStart => exact ⟨0, o, Nat.zero_le _, rfl, HR, fun a b hab hb => HP.out a b (by rcases hab with h | ⟨_, h⟩ <;> omega) hb, HFW⟩
      case round =>
        obtain ⟨j, o2, hj, rfl, HR2, HP2, HFW2⟩ := hrel
        by_cases hl2 : j < c
        · have hjI : (j : Int) < (c : Int) := by omega
          have hkN := HPL.out i j HI.out hl2
          have hp : i * c ≤ 10000 := by omega
          have e1 : (i : Int) * (c : Int) = ((i * c : Nat) : Int) := by simp
          obtain ⟨p, hp'⟩ : ∃ p, Hid (i * c = p) := ⟨_, rfl⟩
          rw [hp'.out] at e1 hp hkN
          have e2 : (p : Int) + (j : Int) = ((p + j : Nat) : Int) := by simp
          obtain ⟨k, hk'⟩ : ∃ k, Hid (p + j = k) := ⟨_, rfl⟩
          have e3 := wrapM p (by omega)
          have e4 := wrapM k (by rw [← hk'.out]; omega)
          rw [hk'.out] at e2 hkN
          have k0 : (0 : Int) ≤ (k : Int) := by omega
          have k1 : (k : Int) < (N : Int) := by omega
          have HCALL := hid (HF.out wr.drew i j HFW2.out.drew.1 HI.out hl2)
          have HS0 : Hid (wr.drew.cell? ⟨mb, 2, none⟩ = some (.slice (some ⟨g, 0, none⟩) N N)) := (mcells_of HFW2.out.drew.2.1).2.2
          have HJ := hid hl2
          have HKN := hid hkN
          clear hl2 hkN hp
          go_wp2_with fail
          refine wp_region_held_drew (S := fun W => W.cell? ⟨mb, 2, none⟩ = some (.slice (some ⟨g, 0, none⟩) N N)) (by kernel_rfl) HS0.out (fun hHeld => ?_)
          refine take_at 0 21 (.pointer (some ⟨mb, 2, none⟩)) rfl rfl (by kernel_rfl) (by kernel_rfl) (by kernel_rfl) (fun _ _ _ h => h) (Or.inl ⟨by rfl, fun w hSw => by (try dsimp only at hSw); go_simp⟩) (by assumption) ?_
          simp only [Act.put, List.setIfInBounds_toArray, List.set_cons_zero, List.set_cons_succ]
          refine take_at 1 22 (.slice (some ⟨g, 0, none⟩) N N) rfl rfl (by kernel_rfl) (by kernel_rfl) (by kernel_rfl) (fun _ _ _ h => h) (Or.inl ⟨by rfl, fun w hSw => by (try dsimp only at hSw); go_simp⟩) (by assumption) ?_
          simp only [Act.put, List.setIfInBounds_toArray, List.set_cons_zero, List.set_cons_succ]
          refine take_at 2 23 (.int .i64 i) rfl rfl (by kernel_rfl) (by kernel_rfl) (by kernel_rfl) (fun _ _ _ h => h) (Or.inl ⟨by rfl, fun w hSw => by (try dsimp only at hSw); go_simp⟩) (by assumption) ?_
          simp only [Act.put, List.setIfInBounds_toArray, List.set_cons_zero, List.set_cons_succ]
          refine take_at 3 24 (.int .i64 c) rfl rfl (by kernel_rfl) (by kernel_rfl) (by kernel_rfl) (fun _ _ _ h => h) (Or.inl ⟨by rfl, fun w hSw => by (try dsimp only at hSw); go_simp⟩) (by assumption) ?_
          simp only [Act.put, List.setIfInBounds_toArray, List.set_cons_zero, List.set_cons_succ]
          refine take_at 4 25 (.int .i64 p) rfl rfl (by kernel_rfl) (by kernel_rfl) (by kernel_rfl) (fun _ _ _ h => h) (Or.inl ⟨by rfl, fun w hSw => by (try dsimp only at hSw); go_simp⟩) (by assumption) ?_
          simp only [Act.put, List.setIfInBounds_toArray, List.set_cons_zero, List.set_cons_succ]
          refine take_at 5 26 (.int .i64 j) rfl rfl (by kernel_rfl) (by kernel_rfl) (by kernel_rfl) (fun _ _ _ h => h) (Or.inl ⟨by rfl, fun w hSw => by (try dsimp only at hSw); go_simp⟩) (by assumption) ?_
          simp only [Act.put, List.setIfInBounds_toArray, List.set_cons_zero, List.set_cons_succ]
          refine take_at 6 27 (.int .i64 k) rfl rfl (by kernel_rfl) (by kernel_rfl) (by kernel_rfl) (fun _ _ _ h => h) (Or.inl ⟨by rfl, fun w hSw => by (try dsimp only at hSw); go_simp⟩) (by assumption) ?_
          simp only [Act.put, List.setIfInBounds_toArray, List.set_cons_zero, List.set_cons_succ]
          refine take_at 7 28 (.func (.func 41) #[] #[.pointer (some p0)]) rfl rfl (by kernel_rfl) (by kernel_rfl) (by kernel_rfl) (fun _ _ _ h => h) (Or.inl ⟨by rfl, fun w hSw => by (try dsimp only at hSw); go_simp⟩) (by assumption) ?_
          simp only [Act.put, List.setIfInBounds_toArray, List.set_cons_zero, List.set_cons_succ]
          refine take_at 8 29 (.int .i64 i) rfl rfl (by kernel_rfl) (by kernel_rfl) (by kernel_rfl) (fun _ _ _ h => h) (Or.inl ⟨by rfl, fun w hSw => by (try dsimp only at hSw); go_simp⟩) (by assumption) ?_
          simp only [Act.put, List.setIfInBounds_toArray, List.set_cons_zero, List.set_cons_succ]
          refine take_at 9 30 (.int .i64 j) rfl rfl (by kernel_rfl) (by kernel_rfl) (by kernel_rfl) (fun _ _ _ h => h) (Or.inl ⟨by rfl, fun w hSw => by (try dsimp only at hSw); go_simp⟩) (by assumption) ?_
          simp only [Act.put, List.setIfInBounds_toArray, List.set_cons_zero, List.set_cons_succ]
          refine wpAnyH_ready (rs := [10]) (by kernel_rfl) (by simp) ?_
          refine AllReadyH.cons (o := _) rfl (fun K hK => ?_) AllReadyH.nil
          go_simp
          refine HCALL.out.mono ?_
          rintro e u1 ⟨x, rfl, hx, hb1⟩
          have HX := hid hx
          have HFU := hid (HFW2.out.drew.call hb1)
          have HRU : Hid (u1.rowIs g 57 N (fun k => .float .f64 (o2 k))) := (HR2.out.of_block rfl).of_block (hb1.block _ HR2.out.lt)
          have HSU : Hid (u1.cell? ⟨mb, 2, none⟩ = some (.slice (some ⟨g, 0, none⟩) N N)) := (mcells_of HFU.out.2.1).2.2
          clear hx hb1
          go_wp2_with fail
          refine hK.out _ _ HSU.out (fun hHeld1 => ?_)
          clear hK K
          try simp only [Act.put, List.setIfInBounds_toArray, List.set_cons_zero, List.set_cons_succ]
          refine take_at 11 32 (.pointer (some ⟨g, k, none⟩)) rfl rfl (by kernel_rfl) (by kernel_rfl) (by kernel_rfl) (fun _ _ _ h => h) (Or.inl ⟨by rfl, fun w hSw => by (try dsimp only at hSw); go_simp⟩) (by assumption) ?_
          simp only [Act.put, List.setIfInBounds_toArray, List.set_cons_zero, List.set_cons_succ]
          have cx := HRU.out.cell (i := k) HKN.out
          have fx := HRU.out.frozen k
          have HSV : Hid ((u1.setCell ⟨g, k, none⟩ (.float .f64 x)).cell? ⟨mb, 2, none⟩ = some (.slice (some ⟨g, 0, none⟩) N N)) := (mcells_of (HFU.out.set HNE.out.1 HNE.out.2.1 HNE.out.2.2 _).2.1).2.2
          refine wpAnyH_ready (rs := [12]) (by kernel_rfl) (by simp) ?_
          refine AllReadyH.cons (o := _) rfl (fun K hK => ?_) AllReadyH.nil
          go_simp
          go_wp2_with fail
          refine hK.out _ _ HSV.out (fun hHeld2 => ?_)
          clear hK K
          try simp only [Act.put, List.setIfInBounds_toArray, List.set_cons_zero, List.set_cons_succ]
          refine wpAnyH_done (by kernel_rfl) ?_ _
          go_wp2_with fail
          have hkk : i * c + j = k := by rw [hp'.out, hk'.out]
          have hj1 := HJ.out
          refine ⟨⟨j + 1, fun t => if t = k then x else o2 t, by omega, by go_num, ?_, fun a b hab hb => ?_, HFU.out.set HNE.out.1 HNE.out.2.1 HNE.out.2.2 _⟩, ?_⟩
          · refine (HRU.out.set k _).congr (fun t _ => ?_)
            by_cases ht : t = k <;> simp [ht]
          · by_cases h : a * c + b = k
            · obtain ⟨ea, eb⟩ := place_ne hb hj1 (h.trans hkk.symm)
              subst ea eb
              dsimp only
              rw [if_pos h]
              exact HX.out
            · dsimp only
              rw [if_neg h]
              refine HP2.out a b ?_ hb
              rcases hab with h1 | ⟨h1, h2⟩
              · exact Or.inl h1
              · have : b ≠ j := fun hc => h (by rw [h1, hc]; exact hkk)
                exact Or.inr ⟨h1, by omega⟩
          · simp [intOf]; omega
        · obtain rfl : j = c := by omega
          go_wp2_with fail
          have hi1 := HI.out
          refine ⟨⟨i + 1, o2, by omega, by go_num, HR2, fun a b ha hb => HP2.out a b (by omega) hb, HFW2⟩, ?_⟩
          simp [intOf]; omega
    · obtain rfl : i = r := by omega
      obtain ⟨m0, m1, m2⟩ := mcells_of HFW.out.2.1
      obtain ⟨b0, b1, b2⟩ := mcells_of HFW.out.2.2
      have fz : ∀ o, wr.frozen? ⟨rb, o, none⟩ = false := fun o => by have := HFW.out.2.2; unfold MBox at this; simp [World.frozen?, this]
      go_wp2_with fail
      refine bodyPost_ret (v := MV i c (some ⟨g, 0, none⟩) N N) (by simp [results, Try.results40, go_sem, b0, b1, b2, MV]) rfl ⟨⟨g, o, rfl, by have := hg.out; omega, ?_, HP.out⟩, ?_⟩
      · exact ((HR.out.of_block (set_keepM (Ne.symm HNE.out.2.1) _)).of_block (set_keepM (Ne.symm HNE.out.2.1) _)).of_block (set_keepM (Ne.symm HNE.out.2.1) _)
      · exact ((HFW.out.1.setCell (p := ⟨rb, 0, none⟩) (by have := hrb.out; show w.heap.size ≤ rb; omega) _).setCell (p := ⟨rb, 1, none⟩) (by have := hrb.out; show w.heap.size ≤ rb; omega) _).setCell (p := ⟨rb, 2, none⟩) (by have := hrb.out; show w.heap.size ≤ rb; omega) _
set_option maxRecDepth 4000 in
set_option maxHeartbeats 1000000 in
theorem clo_Of (i j p0 n lc : Nat) (la : Option Addr) (SA : Nat → Option Addr) (M K : Nat → Nat) (X : Nat → List Nat) (w : World) (h0 : w.heap[p0]? = some (LlB la n lc)) (h : LsF w la n SA M K X) (hi : i < n) (hj : j < M i) :
    Calls Try.prog 41 #[.int .i64 i, .int .i64 j, .pointer (some ⟨p0, 0, none⟩)] w fun e w' => ∃ x : Nat, e = .returned (.float .f64 x) ∧ (x = (X i).getD j 0 ∧ x < 18446744073709551616) ∧ Below w.heap.size w w' := by
  have l0 := llcell_of h0
  obtain ⟨lb, lo, rfl, hbl, hcl⟩ := h.2 (by omega)
  have hci := hcl i hi
  obtain ⟨b, off, e, hb, hc, hl⟩ := (h.1 i hi).at (by omega)
  rw [e] at hci
  have hcj := hc j hj
  have HX := hid (hl j hj)
  obtain ⟨mi, hmi⟩ : ∃ t, Hid (M i = t) := ⟨_, rfl⟩
  rw [hmi.out] at hci hj
  obtain ⟨ki, hki⟩ : ∃ t, Hid (K i = t) := ⟨_, rfl⟩
  rw [hki.out] at hci
  obtain ⟨x, hx⟩ : ∃ t, Hid ((X i).getD j 0 = t) := ⟨_, rfl⟩
  rw [hx.out] at hcj HX
  rw [hx.out]
  have hiI : (i : Int) < (n : Int) := by omega
  have hjI : (j : Int) < (mi : Int) := by omega
  clear h0 h hi hj hcl hc hl hbl hb e
  go_enter Try.func41, Try.ntmps41
  go_wp2_with fail
  go_ret
  exact ⟨_, rfl, ⟨rfl, HX.out⟩, Below.refl _ _⟩
set_option maxRecDepth 4000 in
set_option maxHeartbeats 4000000 in
theorem Of_nil (la : Option Addr) (n lc : Nat) (SA : Nat → Option Addr) (M K : Nat → Nat) (X : Nat → List Nat) (w : World) (h : LsF w la n SA M K X) (hn : n = 0) : Calls Try.prog 17 #[.slice la n lc] w fun e w' => (∃ X0 X1 X2 X3 X4, e = .returned (.tuple #[.agg #[.int .i64 X0, .int .i64 X1, .slice X2 X3 X4], .int .i64 0]) ∧ ResM 0 0 0 (ofV X) w' X0 X1 X2 X3 X4) ∧ Below w.heap.size w w' := by
  subst hn
  clear h
  have HZ := hid (fun W => zeros_any 0 0 (by omega) (by omega) W)
  rw [show 0 * 0 = 0 from rfl] at HZ
  unfold MV at HZ
  obtain ⟨t1, t2, t3, t4⟩ := two_b w (LlB la 0 lc) (MBox 0 0 none 0 0)
  obtain ⟨V, hV⟩ : ∃ V, Hid ((w.alloc (LlB la 0 lc)).alloc (MBox 0 0 none 0 0) = V) := ⟨_, rfl⟩
  obtain ⟨p0, hp0⟩ : ∃ t, Hid (w.heap.size = t) := ⟨_, rfl⟩
  obtain ⟨rb, hrb⟩ : ∃ t, Hid (p0 + 1 = t) := ⟨_, rfl⟩
  rw [hV.out] at t1 t2 t3 t4
  rw [hp0.out] at t1 t2
  rw [hrb.out] at t2
  have HF3 : Hid (Fr3 w V p0 rb (LlB la 0 lc) (MBox 0 0 none 0 0)) := ⟨t3, t1, t2⟩
  have HRB : Hid (w.heap.size ≤ rb) := by
    have e1 := hp0.out; have e3 := hrb.out
    show _ ≤ _
    omega
  have hV' := hV.out
  have hp0' := hp0.out
  have hrb' := hrb.out
  have l0 := llcell_of t1
  obtain ⟨y0, y1, y2⟩ := mcells_of t2
  have fz := frzM t2
  unfold LlB MBox at hV'
  clear t1 t2 t3 t4
  go_enter Try.func17, Try.ntmps17
  go_wp2_with fail
  refine (HZ.out _).mono ?_
  rintro e w2 ⟨rfl, hrow, hb2⟩
  have HF9 := hid (HF3.out.call hb2)
  have HW := hid hrow
  obtain ⟨g, hg⟩ : ∃ t, Hid (V.heap.size + 1 = t) := ⟨_, rfl⟩
  rw [hg.out] at HW
  rw [hg.out]
  have HG : Hid (rb < g) := by
    have e1 := hg.out; have e2 := (Array.getElem?_eq_some_iff.1 HF3.out.2.2).1
    show _ < _
    omega
  obtain ⟨y0, y1, y2⟩ := mcells_of HF9.out.2.2
  have fz := frzM HF9.out.2.2
  have HRE := hid (zer_res (r := 0) (c := 0) (by omega) (by omega) (HW.out.of_block (StoM.keep (W := w2) (b := rb) (r := 0) (c := 0) (sa := some ⟨g, 0, none⟩) (n := 0) (cap := 0) (Nat.ne_of_gt HG.out))))
  have HBE := hid (below_p (StoM.below (r := 0) (c := 0) (sa := some ⟨g, 0, none⟩) (n := 0) (cap := 0) HF9.out.1 HRB.out) hp0.out)
  clear hb2 hrow
  go_wp2_with fail
  exact bodyPost_ret (v := .tuple #[.agg #[.int .i64 0, .int .i64 0, .slice (some ⟨g, 0, none⟩) 0 0], .int .i64 0]) (by simp [results, Try.results17, go_sem, y0, y1, y2]) rfl ⟨⟨_, _, _, _, _, rfl, HRE.out.any⟩, by first | exact HBE.out.1 | exact HBE.out.2⟩
set_option maxRecDepth 4000 in
set_option maxHeartbeats 4000000 in
theorem Of_rng1 (la : Option Addr) (n lc : Nat) (SA : Nat → Option Addr) (M K : Nat → Nat) (X : Nat → List Nat) (w : World) (h : LsF w la n SA M K X) (hn : 12 < n) : Calls Try.prog 17 #[.slice la n lc] w fun e w' => e = .returned (NonM 1) ∧ Below w.heap.size w w' := by
  obtain ⟨lb, lo, rfl, hbl, hcl⟩ := h.2 (by omega)
  have hc0 := hcl 0 (by omega)
  rw [Nat.add_zero] at hc0
  obtain ⟨c, hcc⟩ : ∃ c, Hid (M 0 = c) := ⟨_, rfl⟩
  obtain ⟨s0, hs0⟩ : ∃ c, Hid (SA 0 = c) := ⟨_, rfl⟩
  obtain ⟨k0, hk0⟩ : ∃ c, Hid (K 0 = c) := ⟨_, rfl⟩
  rw [hcc.out, hs0.out, hk0.out] at hc0
  have HS1 := hid (fun W => isSide_any (n : Int) W)
  rw [show sideB (n : Int) = false from by unfold sideB; simp; omega] at HS1
  have hnp : 0 < n := by omega
  have hnz : ((n : Int) == 0) = false := by rw [beq_eq_false_iff_ne]; omega
  have hnI : (0 : Int) < (n : Int) := by omega
  unfold NonM
  unfold MV
  obtain ⟨t1, t2, t3, t4⟩ := two_b w (LlB (some ⟨lb, lo, none⟩) n lc) (MBox 0 0 none 0 0)
  obtain ⟨V, hV⟩ : ∃ V, Hid ((w.alloc (LlB (some ⟨lb, lo, none⟩) n lc)).alloc (MBox 0 0 none 0 0) = V) := ⟨_, rfl⟩
  obtain ⟨p0, hp0⟩ : ∃ t, Hid (w.heap.size = t) := ⟨_, rfl⟩
  obtain ⟨rb, hrb⟩ : ∃ t, Hid (p0 + 1 = t) := ⟨_, rfl⟩
  rw [hV.out] at t1 t2 t3 t4
  rw [hp0.out] at t1 t2
  rw [hrb.out] at t2
  have HF3 : Hid (Fr3 w V p0 rb (LlB (some ⟨lb, lo, none⟩) n lc) (MBox 0 0 none 0 0)) := ⟨t3, t1, t2⟩
  have HRB : Hid (w.heap.size ≤ rb) := by
    have e1 := hp0.out; have e3 := hrb.out
    show _ ≤ _
    omega
  have hV' := hV.out
  have hp0' := hp0.out
  have hrb' := hrb.out
  have l0 := llcell_of t1
  obtain ⟨y0, y1, y2⟩ := mcells_of t2
  have fz := frzM t2
  unfold LlB MBox at hV'
  clear t1 t2 t3 t4
  have HKS : Hid (∀ W, Hid (Fr3 w W p0 rb (LlB (some ⟨lb, lo, none⟩) n lc) (MBox 0 0 none 0 0)) → (W.cell? ⟨p0, 0, none⟩ = some (.slice (some ⟨lb, lo, none⟩) n lc) ∧ W.cell? ⟨lb, lo, none⟩ = some (.slice s0 c k0)) ∧ Hid (Fr3 w W p0 rb (LlB (some ⟨lb, lo, none⟩) n lc) (MBox 0 0 none 0 0))) := fun W hW => ⟨⟨llcell_of hW.out.2.1, (hW.out.1.cell (p := ⟨lb, lo, none⟩) hbl).trans hc0⟩, hW⟩
  have HQ0 : Hid (Fr3 w V.drew p0 rb (LlB (some ⟨lb, lo, none⟩) n lc) (MBox 0 0 none 0 0)) := HF3.out.drew
  clear h hcl hc0 hbl
  go_enter Try.func17, Try.ntmps17
  go_wp2_with fail
  refine wp_region_held_drew (S := fun W => (W.cell? ⟨p0, 0, none⟩ = some (.slice (some ⟨lb, lo, none⟩) n lc) ∧ W.cell? ⟨lb, lo, none⟩ = some (.slice s0 c k0)) ∧ Hid (Fr3 w W p0 rb (LlB (some ⟨lb, lo, none⟩) n lc) (MBox 0 0 none 0 0))) (by kernel_rfl) (HKS.out _ HQ0) (fun hHeld => ?_)
  refine take_at 0 12 (.slice (some ⟨lb, lo, none⟩) n lc) rfl rfl (by kernel_rfl) (by kernel_rfl) (by kernel_rfl) (fun _ _ _ h => h) (Or.inl ⟨by rfl, fun w hSw => by (try dsimp only at hSw); go_simp⟩) (by assumption) ?_
  simp only [Act.put, List.setIfInBounds_toArray, List.set_cons_zero, List.set_cons_succ]
  refine take_at 1 13 (.int .i64 n) rfl rfl (by kernel_rfl) (by kernel_rfl) (by kernel_rfl) (fun _ _ _ h => h) (Or.inl ⟨by rfl, fun w hSw => by (try dsimp only at hSw); go_simp⟩) (by assumption) ?_
  simp only [Act.put, List.setIfInBounds_toArray, List.set_cons_zero, List.set_cons_succ]
  refine take_at 2 14 (.slice (some ⟨lb, lo, none⟩) n lc) rfl rfl (by kernel_rfl) (by kernel_rfl) (by kernel_rfl) (fun _ _ _ h => h) (Or.inl ⟨by rfl, fun w hSw => by (try dsimp only at hSw); go_simp⟩) (by assumption) ?_
  simp only [Act.put, List.setIfInBounds_toArray, List.set_cons_zero, List.set_cons_succ]
  refine take_at 3 15 (.pointer (some ⟨lb, lo, none⟩)) rfl rfl (by kernel_rfl) (by kernel_rfl) (by kernel_rfl) (fun _ _ _ h => h) (Or.inl ⟨by rfl, fun w hSw => by (try dsimp only at hSw); go_simp⟩) (by assumption) ?_
  simp only [Act.put, List.setIfInBounds_toArray, List.set_cons_zero, List.set_cons_succ]
  refine take_at 4 16 (.slice s0 c k0) rfl rfl (by kernel_rfl) (by kernel_rfl) (by kernel_rfl) (fun _ _ _ h => h) (Or.inl ⟨by rfl, fun w hSw => by (try dsimp only at hSw); go_simp⟩) (by assumption) ?_
  simp only [Act.put, List.setIfInBounds_toArray, List.set_cons_zero, List.set_cons_succ]
  refine take_at 5 17 (.int .i64 c) rfl rfl (by kernel_rfl) (by kernel_rfl) (by kernel_rfl) (fun _ _ _ h => h) (Or.inl ⟨by rfl, fun w hSw => by (try dsimp only at hSw); go_simp⟩) (by assumption) ?_
  simp only [Act.put, List.setIfInBounds_toArray, List.set_cons_zero, List.set_cons_succ]
  refine take_at 6 4 (.int .i64 n) rfl rfl (by kernel_rfl) (by kernel_rfl) (by kernel_rfl) (fun _ _ _ h => h) (Or.inl ⟨by rfl, fun w hSw => by (try dsimp only at hSw); go_simp⟩) (by assumption) ?_
  simp only [Act.put, List.setIfInBounds_toArray, List.set_cons_zero, List.set_cons_succ]
  refine take_at 7 5 (.int .i64 c) rfl rfl (by kernel_rfl) (by kernel_rfl) (by kernel_rfl) (fun _ _ _ h => h) (Or.inl ⟨by rfl, fun w hSw => by (try dsimp only at hSw); go_simp⟩) (by assumption) ?_
  simp only [Act.put, List.setIfInBounds_toArray, List.set_cons_zero, List.set_cons_succ]
  refine wpAnyH_done (by kernel_rfl) ?_ _
  go_wp2_with fail
  refine (HS1.out _).mono ?_
  rintro e ww ⟨rfl, hw⟩
  rw [hw]
  clear hw
  go_wp2_with fail
  refine (refused_any 1 _).mono ?_
  rintro e w2 ⟨rfl, hb2⟩
  have HF9 := hid (HQ0.out.call hb2)
  obtain ⟨y0, y1, y2⟩ := mcells_of HF9.out.2.2
  have fz := frzM HF9.out.2.2
  have HBE := hid (below_p (StoM.below (r := 0) (c := 0) (sa := none) (n := 0) (cap := 0) HF9.out.1 HRB.out) hp0.out)
  unfold MV
  clear hb2
  go_wp2_with fail
  exact bodyPost_ret (v := .tuple #[MV 0 0 none 0 0, .int .i64 1]) (by simp [results, Try.results17, go_sem, y0, y1, y2, MV]) rfl ⟨rfl, by first | exact HBE.out.1 | exact HBE.out.2⟩
set_option maxRecDepth 4000 in
set_option maxHeartbeats 4000000 in
theorem Of_rng2 (la : Option Addr) (n lc : Nat) (SA : Nat → Option Addr) (M K : Nat → Nat) (X : Nat → List Nat) (w : World) (h : LsF w la n SA M K X) (hn : n ≤ 12 ∧ 0 < n) (hm : 12 < M 0) : Calls Try.prog 17 #[.slice la n lc] w fun e w' => e = .returned (NonM 1) ∧ Below w.heap.size w w' := by
  obtain ⟨lb, lo, rfl, hbl, hcl⟩ := h.2 (by omega)
  have hc0 := hcl 0 (by omega)
  rw [Nat.add_zero] at hc0
  obtain ⟨c, hcc⟩ : ∃ c, Hid (M 0 = c) := ⟨_, rfl⟩
  obtain ⟨s0, hs0⟩ : ∃ c, Hid (SA 0 = c) := ⟨_, rfl⟩
  obtain ⟨k0, hk0⟩ : ∃ c, Hid (K 0 = c) := ⟨_, rfl⟩
  rw [hcc.out, hs0.out, hk0.out] at hc0
  rw [hcc.out] at hm
  have HS1 := hid (fun W => isSide_any (n : Int) W)
  rw [show sideB (n : Int) = true from by unfold sideB; simp; omega] at HS1
  have HS2 := hid (fun W => isSide_any (c : Int) W)
  rw [show sideB (c : Int) = false from by unfold sideB; simp; omega] at HS2
  have hnz : ((n : Int) == 0) = false := by rw [beq_eq_false_iff_ne]; omega
  have hnI : (0 : Int) < (n : Int) := by omega
  unfold NonM
  unfold MV
  obtain ⟨t1, t2, t3, t4⟩ := two_b w (LlB (some ⟨lb, lo, none⟩) n lc) (MBox 0 0 none 0 0)
  obtain ⟨V, hV⟩ : ∃ V, Hid ((w.alloc (LlB (some ⟨lb, lo, none⟩) n lc)).alloc (MBox 0 0 none 0 0) = V) := ⟨_, rfl⟩
  obtain ⟨p0, hp0⟩ : ∃ t, Hid (w.heap.size = t) := ⟨_, rfl⟩
  obtain ⟨rb, hrb⟩ : ∃ t, Hid (p0 + 1 = t) := ⟨_, rfl⟩
  rw [hV.out] at t1 t2 t3 t4
  rw [hp0.out] at t1 t2
  rw [hrb.out] at t2
  have HF3 : Hid (Fr3 w V p0 rb (LlB (some ⟨lb, lo, none⟩) n lc) (MBox 0 0 none 0 0)) := ⟨t3, t1, t2⟩
  have HRB : Hid (w.heap.size ≤ rb) := by
    have e1 := hp0.out; have e3 := hrb.out
    show _ ≤ _
    omega
  have hV' := hV.out
  have hp0' := hp0.out
  have hrb' := hrb.out
  have l0 := llcell_of t1
  obtain ⟨y0, y1, y2⟩ := mcells_of t2
  have fz := frzM t2
  unfold LlB MBox at hV'
  clear t1 t2 t3 t4
  have HKS : Hid (∀ W, Hid (Fr3 w W p0 rb (LlB (some ⟨lb, lo, none⟩) n lc) (MBox 0 0 none 0 0)) → (W.cell? ⟨p0, 0, none⟩ = some (.slice (some ⟨lb, lo, none⟩) n lc) ∧ W.cell? ⟨lb, lo, none⟩ = some (.slice s0 c k0)) ∧ Hid (Fr3 w W p0 rb (LlB (some ⟨lb, lo, none⟩) n lc) (MBox 0 0 none 0 0))) := fun W hW => ⟨⟨llcell_of hW.out.2.1, (hW.out.1.cell (p := ⟨lb, lo, none⟩) hbl).trans hc0⟩, hW⟩
  have HQ0 : Hid (Fr3 w V.drew p0 rb (LlB (some ⟨lb, lo, none⟩) n lc) (MBox 0 0 none 0 0)) := HF3.out.drew
  clear h hcl hc0 hbl
  go_enter Try.func17, Try.ntmps17
  go_wp2_with fail
  refine wp_region_held_drew (S := fun W => (W.cell? ⟨p0, 0, none⟩ = some (.slice (some ⟨lb, lo, none⟩) n lc) ∧ W.cell? ⟨lb, lo, none⟩ = some (.slice s0 c k0)) ∧ Hid (Fr3 w W p0 rb (LlB (some ⟨lb, lo, none⟩) n lc) (MBox 0 0 none 0 0))) (by kernel_rfl) (HKS.out _ HQ0) (fun hHeld => ?_)
  refine take_at 0 12 (.slice (some ⟨lb, lo, none⟩) n lc) rfl rfl (by kernel_rfl) (by kernel_rfl) (by kernel_rfl) (fun _ _ _ h => h) (Or.inl ⟨by rfl, fun w hSw => by (try dsimp only at hSw); go_simp⟩) (by assumption) ?_
  simp only [Act.put, List.setIfInBounds_toArray, List.set_cons_zero, List.set_cons_succ]
  refine take_at 1 13 (.int .i64 n) rfl rfl (by kernel_rfl) (by kernel_rfl) (by kernel_rfl) (fun _ _ _ h => h) (Or.inl ⟨by rfl, fun w hSw => by (try dsimp only at hSw); go_simp⟩) (by assumption) ?_
  simp only [Act.put, List.setIfInBounds_toArray, List.set_cons_zero, List.set_cons_succ]
  refine take_at 2 14 (.slice (some ⟨lb, lo, none⟩) n lc) rfl rfl (by kernel_rfl) (by kernel_rfl) (by kernel_rfl) (fun _ _ _ h => h) (Or.inl ⟨by rfl, fun w hSw => by (try dsimp only at hSw); go_simp⟩) (by assumption) ?_
  simp only [Act.put, List.setIfInBounds_toArray, List.set_cons_zero, List.set_cons_succ]
  refine take_at 3 15 (.pointer (some ⟨lb, lo, none⟩)) rfl rfl (by kernel_rfl) (by kernel_rfl) (by kernel_rfl) (fun _ _ _ h => h) (Or.inl ⟨by rfl, fun w hSw => by (try dsimp only at hSw); go_simp⟩) (by assumption) ?_
  simp only [Act.put, List.setIfInBounds_toArray, List.set_cons_zero, List.set_cons_succ]
  refine take_at 4 16 (.slice s0 c k0) rfl rfl (by kernel_rfl) (by kernel_rfl) (by kernel_rfl) (fun _ _ _ h => h) (Or.inl ⟨by rfl, fun w hSw => by (try dsimp only at hSw); go_simp⟩) (by assumption) ?_
  simp only [Act.put, List.setIfInBounds_toArray, List.set_cons_zero, List.set_cons_succ]
  refine take_at 5 17 (.int .i64 c) rfl rfl (by kernel_rfl) (by kernel_rfl) (by kernel_rfl) (fun _ _ _ h => h) (Or.inl ⟨by rfl, fun w hSw => by (try dsimp only at hSw); go_simp⟩) (by assumption) ?_
  simp only [Act.put, List.setIfInBounds_toArray, List.set_cons_zero, List.set_cons_succ]
  refine take_at 6 4 (.int .i64 n) rfl rfl (by kernel_rfl) (by kernel_rfl) (by kernel_rfl) (fun _ _ _ h => h) (Or.inl ⟨by rfl, fun w hSw => by (try dsimp only at hSw); go_simp⟩) (by assumption) ?_
  simp only [Act.put, List.setIfInBounds_toArray, List.set_cons_zero, List.set_cons_succ]
  refine take_at 7 5 (.int .i64 c) rfl rfl (by kernel_rfl) (by kernel_rfl) (by kernel_rfl) (fun _ _ _ h => h) (Or.inl ⟨by rfl, fun w hSw => by (try dsimp only at hSw); go_simp⟩) (by assumption) ?_
  simp only [Act.put, List.setIfInBounds_toArray, List.set_cons_zero, List.set_cons_succ]
  refine wpAnyH_done (by kernel_rfl) ?_ _
  go_wp2_with fail
  refine (HS1.out _).mono ?_
  rintro e ww ⟨rfl, hw⟩
  rw [hw]
  clear hw
  go_wp2_with fail
  refine (HS2.out _).mono ?_
  rintro e ww ⟨rfl, hw⟩
  rw [hw]
  clear hw
  go_wp2_with fail
  refine (refused_any 1 _).mono ?_
  rintro e w2 ⟨rfl, hb2⟩
  have HF9 := hid (HQ0.out.call hb2)
  obtain ⟨y0, y1, y2⟩ := mcells_of HF9.out.2.2
  have fz := frzM HF9.out.2.2
  have HBE := hid (below_p (StoM.below (r := 0) (c := 0) (sa := none) (n := 0) (cap := 0) HF9.out.1 HRB.out) hp0.out)
  unfold MV
  clear hb2
  go_wp2_with fail
  exact bodyPost_ret (v := .tuple #[MV 0 0 none 0 0, .int .i64 1]) (by simp [results, Try.results17, go_sem, y0, y1, y2, MV]) rfl ⟨rfl, by first | exact HBE.out.1 | exact HBE.out.2⟩
set_option maxRecDepth 4000 in
set_option maxHeartbeats 4000000 in
theorem Of_rest (la : Option Addr) (n lc : Nat) (SA : Nat → Option Addr) (M K : Nat → Nat) (X : Nat → List Nat) (w : World) (h : LsF w la n SA M K X) (hn : n ≤ 12 ∧ 0 < n) (hm : M 0 ≤ 12) : Calls Try.prog 17 #[.slice la n lc] w fun e w' => OfR n (M 0) M X e w' ∧ Below w.heap.size w w' := by
  obtain ⟨lb, lo, rfl, hbl, hcl⟩ := h.2 (by omega)
  have hc0 := hcl 0 (by omega)
  rw [Nat.add_zero] at hc0
  obtain ⟨c, hcc⟩ : ∃ c, Hid (M 0 = c) := ⟨_, rfl⟩
  obtain ⟨s0, hs0⟩ : ∃ c, Hid (SA 0 = c) := ⟨_, rfl⟩
  obtain ⟨k0, hk0⟩ : ∃ c, Hid (K 0 = c) := ⟨_, rfl⟩
  rw [hcc.out, hs0.out, hk0.out] at hc0
  rw [hcc.out] at hm
  rw [hcc.out]
  have HS1 := hid (fun W => isSide_any (n : Int) W)
  rw [show sideB (n : Int) = true from by unfold sideB; simp; omega] at HS1
  have HS2 := hid (fun W => isSide_any (c : Int) W)
  rw [show sideB (c : Int) = true from by unfold sideB; simp; omega] at HS2
  have hnz : ((n : Int) == 0) = false := by rw [beq_eq_false_iff_ne]; omega
  have hnI : (0 : Int) < (n : Int) := by omega
  have H12 := hid (And.intro hn.1 hm)
  have HCI : Hid (∀ i, i < n → w.cell? ⟨lb, lo + i, none⟩ = some (.slice (SA i) (M i) (K i))) := hcl
  have HBL := hid hbl
  have HLS := hid h
  obtain ⟨t1, t2, t3, t4⟩ := two_b w (LlB (some ⟨lb, lo, none⟩) n lc) (MBox 0 0 none 0 0)
  obtain ⟨V, hV⟩ : ∃ V, Hid ((w.alloc (LlB (some ⟨lb, lo, none⟩) n lc)).alloc (MBox 0 0 none 0 0) = V) := ⟨_, rfl⟩
  obtain ⟨p0, hp0⟩ : ∃ t, Hid (w.heap.size = t) := ⟨_, rfl⟩
  obtain ⟨rb, hrb⟩ : ∃ t, Hid (p0 + 1 = t) := ⟨_, rfl⟩
  rw [hV.out] at t1 t2 t3 t4
  rw [hp0.out] at t1 t2
  rw [hrb.out] at t2
  have HF3 : Hid (Fr3 w V p0 rb (LlB (some ⟨lb, lo, none⟩) n lc) (MBox 0 0 none 0 0)) := ⟨t3, t1, t2⟩
  have HRB : Hid (w.heap.size ≤ rb) := by
    have e1 := hp0.out; have e3 := hrb.out
    show _ ≤ _
    omega
  have hV' := hV.out
  have hp0' := hp0.out
  have hrb' := hrb.out
  have l0 := llcell_of t1
  obtain ⟨y0, y1, y2⟩ := mcells_of t2
  have fz := frzM t2
  unfold LlB MBox at hV'
  clear t1 t2 t3 t4
  have HKS : Hid (∀ W, Hid (Fr3 w W p0 rb (LlB (some ⟨lb, lo, none⟩) n lc) (MBox 0 0 none 0 0)) → (W.cell? ⟨p0, 0, none⟩ = some (.slice (some ⟨lb, lo, none⟩) n lc) ∧ W.cell? ⟨lb, lo, none⟩ = some (.slice s0 c k0)) ∧ Hid (Fr3 w W p0 rb (LlB (some ⟨lb, lo, none⟩) n lc) (MBox 0 0 none 0 0))) := fun W hW => ⟨⟨llcell_of hW.out.2.1, (hW.out.1.cell (p := ⟨lb, lo, none⟩) hbl).trans hc0⟩, hW⟩
  have HQ0 : Hid (Fr3 w V.drew p0 rb (LlB (some ⟨lb, lo, none⟩) n lc) (MBox 0 0 none 0 0)) := HF3.out.drew
  have HFI := hid (fun W (hF : Fr3 w W p0 rb (LlB (some ⟨lb, lo, none⟩) n lc) (MBox 0 0 none 0 0)) (hs : samB M n = true) => fill_Of n c (by omega) (by omega) ⟨p0, 0, none⟩ (fun i j x => x = (X i).getD j 0) W (fun W2 i j hW2 hi hj => clo_Of i j p0 n lc (some ⟨lb, lo, none⟩) SA M K X W2 (blkM hF.2.1 hW2) ((h.below hF.1).below hW2) hi (by rw [sam_at hs hi, hcc.out]; exact hj)))
  have HN144 : Hid (n * c ≤ 144) := Nat.mul_le_mul hn.1 hm
  obtain ⟨N, hN⟩ : ∃ p, Hid (n * c = p) := ⟨_, rfl⟩
  clear h hcl hc0 hbl
  go_enter Try.func17, Try.ntmps17
  go_wp2_with fail
  refine wp_region_held_drew (S := fun W => (W.cell? ⟨p0, 0, none⟩ = some (.slice (some ⟨lb, lo, none⟩) n lc) ∧ W.cell? ⟨lb, lo, none⟩ = some (.slice s0 c k0)) ∧ Hid (Fr3 w W p0 rb (LlB (some ⟨lb, lo, none⟩) n lc) (MBox 0 0 none 0 0))) (by kernel_rfl) (HKS.out _ HQ0) (fun hHeld => ?_)
  refine take_at 0 12 (.slice (some ⟨lb, lo, none⟩) n lc) rfl rfl (by kernel_rfl) (by kernel_rfl) (by kernel_rfl) (fun _ _ _ h => h) (Or.inl ⟨by rfl, fun w hSw => by (try dsimp only at hSw); go_simp⟩) (by assumption) ?_
  simp only [Act.put, List.setIfInBounds_toArray, List.set_cons_zero, List.set_cons_succ]
  refine take_at 1 13 (.int .i64 n) rfl rfl (by kernel_rfl) (by kernel_rfl) (by kernel_rfl) (fun _ _ _ h => h) (Or.inl ⟨by rfl, fun w hSw => by (try dsimp only at hSw); go_simp⟩) (by assumption) ?_
  simp only [Act.put, List.setIfInBounds_toArray, List.set_cons_zero, List.set_cons_succ]
  refine take_at 2 14 (.slice (some ⟨lb, lo, none⟩) n lc) rfl rfl (by kernel_rfl) (by kernel_rfl) (by kernel_rfl) (fun _ _ _ h => h) (Or.inl ⟨by rfl, fun w hSw => by (try dsimp only at hSw); go_simp⟩) (by assumption) ?_
  simp only [Act.put, List.setIfInBounds_toArray, List.set_cons_zero, List.set_cons_succ]
  refine take_at 3 15 (.pointer (some ⟨lb, lo, none⟩)) rfl rfl (by kernel_rfl) (by kernel_rfl) (by kernel_rfl) (fun _ _ _ h => h) (Or.inl ⟨by rfl, fun w hSw => by (try dsimp only at hSw); go_simp⟩) (by assumption) ?_
  simp only [Act.put, List.setIfInBounds_toArray, List.set_cons_zero, List.set_cons_succ]
  refine take_at 4 16 (.slice s0 c k0) rfl rfl (by kernel_rfl) (by kernel_rfl) (by kernel_rfl) (fun _ _ _ h => h) (Or.inl ⟨by rfl, fun w hSw => by (try dsimp only at hSw); go_simp⟩) (by assumption) ?_
  simp only [Act.put, List.setIfInBounds_toArray, List.set_cons_zero, List.set_cons_succ]
  refine take_at 5 17 (.int .i64 c) rfl rfl (by kernel_rfl) (by kernel_rfl) (by kernel_rfl) (fun _ _ _ h => h) (Or.inl ⟨by rfl, fun w hSw => by (try dsimp only at hSw); go_simp⟩) (by assumption) ?_
  simp only [Act.put, List.setIfInBounds_toArray, List.set_cons_zero, List.set_cons_succ]
  refine take_at 6 4 (.int .i64 n) rfl rfl (by kernel_rfl) (by kernel_rfl) (by kernel_rfl) (fun _ _ _ h => h) (Or.inl ⟨by rfl, fun w hSw => by (try dsimp only at hSw); go_simp⟩) (by assumption) ?_
  simp only [Act.put, List.setIfInBounds_toArray, List.set_cons_zero, List.set_cons_succ]
  refine take_at 7 5 (.int .i64 c) rfl rfl (by kernel_rfl) (by kernel_rfl) (by kernel_rfl) (fun _ _ _ h => h) (Or.inl ⟨by rfl, fun w hSw => by (try dsimp only at hSw); go_simp⟩) (by assumption) ?_
  simp only [Act.put, List.setIfInBounds_toArray, List.set_cons_zero, List.set_cons_succ]
  refine wpAnyH_done (by kernel_rfl) ?_ _
  go_wp2_with fail
  refine (HS1.out _).mono ?_
  rintro e ww ⟨rfl, hw⟩
  rw [hw]
  clear hw
  go_wp2_with fail
  refine (HS2.out _).mono ?_
  rintro e ww ⟨rfl, hw⟩
  rw [hw]
  clear hw
  go_wp2_with fail
  go_loopw [30] (fun iv wr => ∃ i : Nat, i ≤ n ∧ iv = .int .i64 i ∧ Hid (samB M i = true) ∧ Hid (Fr3 w wr p0 rb (LlB (some ⟨lb, lo, none⟩) n lc) (MBox 0 0 none 0 0))) (fun iv _ => n - (intOf iv).toNat)
  case atStart => exact ⟨0, Nat.zero_le _, rfl, rfl, HQ0⟩
  case round =>
    obtain ⟨i, hi, rfl, HS, HF4⟩ := hrel
    obtain ⟨n12, c12⟩ := H12.out
    have l0 := llcell_of HF4.out.2.1
    obtain ⟨y0, y1, y2⟩ := mcells_of HF4.out.2.2
    have fz := frzM HF4.out.2.2
    by_cases hlt : i < n
    · have hiI : (i : Int) < (n : Int) := by omega
      have hci := (HF4.out.1.cell (p := ⟨lb, lo + i, none⟩) HBL.out).trans (HCI.out i hlt)
      have HI := hid hlt
      obtain ⟨mi, hmi⟩ : ∃ t, Hid (M i = t) := ⟨_, rfl⟩
      obtain ⟨si, hsi⟩ : ∃ t, Hid (SA i = t) := ⟨_, rfl⟩
      obtain ⟨ki, hki⟩ : ∃ t, Hid (K i = t) := ⟨_, rfl⟩
      rw [hmi.out, hsi.out, hki.out] at hci
      by_cases hmc : mi = c
      · have hb : ((mi : Int) != (c : Int)) = false := by simp; omega
        have HS2 : Hid (samB M (i + 1) = true) := by
          show (samB M i && decide (M i = M 0)) = true
          rw [HS.out, hmi.out, hcc.out, decide_eq_true hmc]; rfl
        clear hmc hlt
        go_wp2_with fail
        have hi1 := HI.out
        refine ⟨⟨i + 1, by omega, by go_num, HS2, HF4⟩, ?_⟩
        simp [intOf]; omega
      · have hb : ((mi : Int) != (c : Int)) = true := by simp; omega
        have HNS : Hid (samB M n = false) := sam_no hlt (by rw [hmi.out, hcc.out]; exact hmc)
        clear hmc hlt
        go_wp2_with fail
        refine (refused_any 3 _).mono ?_
        rintro e w2 ⟨rfl, hb2⟩
        have HF9 := hid (HF4.out.call hb2)
        obtain ⟨y0, y1, y2⟩ := mcells_of HF9.out.2.2
        have fz := frzM HF9.out.2.2
        have HBE := hid (below_p (StoM.below (r := 0) (c := 0) (sa := none) (n := 0) (cap := 0) HF9.out.1 HRB.out) hp0.out)
        unfold MV
        clear hb2
        go_wp2_with fail
        exact bodyPost_ret (v := .tuple #[MV 0 0 none 0 0, .int .i64 3]) (by simp [results, Try.results17, go_sem, y0, y1, y2, MV]) rfl ⟨Or.inl ⟨HNS.out, rfl⟩, by first | exact HBE.out.1 | exact HBE.out.2⟩
    · obtain rfl : n = i := by omega
      have HFF := hid (fun W hF => HFI.out W hF HS.out)
      go_wp2_with fail
      refine (HFF.out _ HF4.out).mono ?_
      rintro e w3 ⟨hfi, hb3⟩
      obtain ⟨g1, o1, rfl, hg1, hf1, hp1⟩ := hfi.fn (by have := HN144.out; omega)
      rw [hN.out] at hf1
      rw [hN.out]
      have hal : Below w3.heap.size w3 (w3.alloc (MBox n c (some ⟨g1, 0, none⟩) N N)) := (Below.refl _ _).alloc (Nat.le_refl _) _
      have HF5 := hid ((HF4.out.call hb3).call hal)
      have HF1 := hid (hf1.below hal)
      have HM1 : Hid ((w3.alloc (MBox n c (some ⟨g1, 0, none⟩) N N)).heap[w3.heap.size]? = some (MBox n c (some ⟨g1, 0, none⟩) N N)) := nblkM _ _
      have HP1 := hid hp1
      obtain ⟨V5, hV5⟩ : ∃ V, Hid (w3.alloc (MBox n c (some ⟨g1, 0, none⟩) N N) = V) := ⟨_, rfl⟩
      obtain ⟨mb, hmb⟩ : ∃ V, Hid (w3.heap.size = V) := ⟨_, rfl⟩
      rw [hV5.out] at HF5 HF1 HM1
      rw [hmb.out] at HM1
      have hV5' := hV5.out
      have hmb' := hmb.out
      unfold MBox at hV5'
      unfold MV
      have HFN := hid (FinM_any (some ⟨g1, 0, none⟩) N N _ V5 HF1.out.fl (by have := HN144.out; have := hN.out; omega))
      have HAF : Hid (finM ((List.range N).map o1) = allF X n) := by
        show finF N o1 = _
        rw [← hN.out]
        exact all_fin (fun i hi => (HLS.out.1 i hi).1) HS.out hcc.out HP1.out
      rw [HAF.out] at HFN
      obtain ⟨m0, m1, m2⟩ := mcells_of HM1.out
      clear hb3 hfi hg1 hf1 hp1 hal
      cases haf : allF X n with
      | true =>
        rw [haf] at HFN
        have HAT := hid haf
        clear haf
        go_wp2_with fail
        refine HFN.out.mono ?_
        rintro e w6 ⟨rfl, hb6⟩
        have HF6 := hid (HF5.out.call hb6)
        obtain ⟨m0, m1, m2⟩ := mcells_of (blkM HM1.out hb6)
        obtain ⟨y0, y1, y2⟩ := mcells_of HF6.out.2.2
        have fz := frzM HF6.out.2.2
        have HF7 := hid (HF1.out.below hb6)
        have HBE := hid (below_p (StoM.below (r := n) (c := c) (sa := some ⟨g1, 0, none⟩) (n := N) (cap := N) HF6.out.1 HRB.out) hp0.out)
        clear hb6
        go_wp2_with fail
        exact bodyPost_ret (v := .tuple #[.agg #[.int .i64 n, .int .i64 c, .slice (some ⟨g1, 0, none⟩) N N], .int .i64 0]) (by simp [results, Try.results17, go_sem, y0, y1, y2]) rfl ⟨Or.inr (Or.inr ⟨HS.out, HAT.out, g1, o1, by rw [hN.out], by rw [hN.out]; exact StoM.fn HF7.out HF6.out.2.2, HP1.out⟩), by first | exact HBE.out.1 | exact HBE.out.2⟩
      | false =>
        rw [haf] at HFN
        have HAT := hid haf
        clear haf
        go_wp2_with fail
        refine HFN.out.mono ?_
        rintro e w6 ⟨rfl, hb6⟩
        have HF6 := hid (HF5.out.call hb6)
        clear hb6
        go_wp2_with fail
        refine (refused_any 4 _).mono ?_
        rintro e w2 ⟨rfl, hb2⟩
        have HF9 := hid (HF6.out.call hb2)
        obtain ⟨y0, y1, y2⟩ := mcells_of HF9.out.2.2
        have fz := frzM HF9.out.2.2
        have HBE := hid (below_p (StoM.below (r := 0) (c := 0) (sa := none) (n := 0) (cap := 0) HF9.out.1 HRB.out) hp0.out)
        unfold MV
        clear hb2
        go_wp2_with fail
        exact bodyPost_ret (v := .tuple #[MV 0 0 none 0 0, .int .i64 4]) (by simp [results, Try.results17, go_sem, y0, y1, y2, MV]) rfl ⟨Or.inr (Or.inl ⟨HS.out, HAT.out, rfl⟩), by first | exact HBE.out.1 | exact HBE.out.2⟩
end Go.Proofs.Ytokeialkeadanaa
