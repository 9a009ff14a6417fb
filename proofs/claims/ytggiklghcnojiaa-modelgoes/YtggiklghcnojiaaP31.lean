
/- model's parts: kinds, what is wrong with a part; the document's. -/
import Derived.Test.YtggiklghcnojiaaP30
import Derived.Laws.EntriesVeiled
namespace Go.Proofs.Ytggiklghcnojiaa
open Go.RowKit Go.IntWalk

/-- How many numbers an axis of a kind has. -/
def szK (k : Int) : Int := if k = 0 ∨ k = 1 ∨ k = 4 then 1 else if k = 2 then 2 else if k = 3 then 3 else 0
/-- May a noise not be so? -/
def fltB (x : Nat) : Bool := (FloatKind.f64.format.order x 0 == some .lt) || (FloatKind.f64.format.order x 5057542381537067008 == some .gt)
def ptE (k a : Int) (n f : Nat) : Int := if szK k = 0 then 140 else if a < 1 ∨ 12 < a then 1 else if finM [n, f] = false then 4 else if fltB n = true ∨ fltB f = true then 141 else 0
set_option maxHeartbeats 1000000 in
theorem kindOf_zero (a : Int) (n f : Nat) (w : World) : Calls Try.prog 16 #[.agg #[.int .i64 0, .int .i64 a, .float .f64 n, .float .f64 f]] w fun r w' => r = .returned (.agg #[.int .i64 1, .func (.func 23) #[] #[], .func (.func 24) #[] #[], .func (.func 24) #[] #[]]) ∧ Below w.heap.size w w' := by
  go_enter Try.func16, Try.ntmps16
  go_wp2
  exact bodyPost_ret (v := .agg #[.int .i64 1, .func (.func 23) #[] #[], .func (.func 24) #[] #[], .func (.func 24) #[] #[]]) (by simp [results, Try.results16, go_sem]) rfl ⟨rfl, ((Below.refl _ _).alloc (Nat.le_refl _) _).alloc (by simp) _⟩
set_option maxHeartbeats 1000000 in
theorem kindOf_one (a : Int) (n f : Nat) (w : World) : Calls Try.prog 16 #[.agg #[.int .i64 1, .int .i64 a, .float .f64 n, .float .f64 f]] w fun r w' => r = .returned (.agg #[.int .i64 1, .func (.func 23) #[] #[], .func (.func 25) #[] #[], .func (.func 26) #[] #[]]) ∧ Below w.heap.size w w' := by
  go_enter Try.func16, Try.ntmps16
  go_wp2
  exact bodyPost_ret (v := .agg #[.int .i64 1, .func (.func 23) #[] #[], .func (.func 25) #[] #[], .func (.func 26) #[] #[]]) (by simp [results, Try.results16, go_sem]) rfl ⟨rfl, ((Below.refl _ _).alloc (Nat.le_refl _) _).alloc (by simp) _⟩
set_option maxHeartbeats 1000000 in
theorem kindOf_two (a : Int) (n f : Nat) (w : World) : Calls Try.prog 16 #[.agg #[.int .i64 2, .int .i64 a, .float .f64 n, .float .f64 f]] w fun r w' => r = .returned (.agg #[.int .i64 2, .func (.func 27) #[] #[], .func (.func 28) #[] #[], .func (.func 29) #[] #[]]) ∧ Below w.heap.size w w' := by
  go_enter Try.func16, Try.ntmps16
  go_wp2
  exact bodyPost_ret (v := .agg #[.int .i64 2, .func (.func 27) #[] #[], .func (.func 28) #[] #[], .func (.func 29) #[] #[]]) (by simp [results, Try.results16, go_sem]) rfl ⟨rfl, ((Below.refl _ _).alloc (Nat.le_refl _) _).alloc (by simp) _⟩
set_option maxHeartbeats 1000000 in
theorem kindOf_three (a : Int) (n f : Nat) (w : World) : Calls Try.prog 16 #[.agg #[.int .i64 3, .int .i64 a, .float .f64 n, .float .f64 f]] w fun r w' => r = .returned (.agg #[.int .i64 3, .func (.func 30) #[] #[], .func (.func 31) #[] #[], .func (.func 32) #[] #[]]) ∧ Below w.heap.size w w' := by
  go_enter Try.func16, Try.ntmps16
  go_wp2
  exact bodyPost_ret (v := .agg #[.int .i64 3, .func (.func 30) #[] #[], .func (.func 31) #[] #[], .func (.func 32) #[] #[]]) (by simp [results, Try.results16, go_sem]) rfl ⟨rfl, ((Below.refl _ _).alloc (Nat.le_refl _) _).alloc (by simp) _⟩
set_option maxHeartbeats 1000000 in
theorem kindOf_four (a : Int) (n f : Nat) (w : World) : Calls Try.prog 16 #[.agg #[.int .i64 4, .int .i64 a, .float .f64 n, .float .f64 f]] w fun r w' => r = .returned (.agg #[.int .i64 1, .func (.func 33) #[] #[], .func (.func 25) #[] #[], .func (.func 26) #[] #[]]) ∧ Below w.heap.size w w' := by
  go_enter Try.func16, Try.ntmps16
  go_wp2
  exact bodyPost_ret (v := .agg #[.int .i64 1, .func (.func 33) #[] #[], .func (.func 25) #[] #[], .func (.func 26) #[] #[]]) (by simp [results, Try.results16, go_sem]) rfl ⟨rfl, ((Below.refl _ _).alloc (Nat.le_refl _) _).alloc (by simp) _⟩
set_option maxHeartbeats 1000000 in
theorem kindOf_none (k a : Int) (n f : Nat) (w : World) (h0 : ¬ k = 0) (h1 : ¬ k = 1) (h2 : ¬ k = 2) (h3 : ¬ k = 3) (h4 : ¬ k = 4) : Calls Try.prog 16 #[.agg #[.int .i64 k, .int .i64 a, .float .f64 n, .float .f64 f]] w fun r w' => r = .returned (.agg #[.int .i64 0, .nilFunc, .nilFunc, .nilFunc]) ∧ Below w.heap.size w w' := by
  go_enter Try.func16, Try.ntmps16
  go_wp2
  exact bodyPost_ret (v := .agg #[.int .i64 0, .nilFunc, .nilFunc, .nilFunc]) (by simp [results, Try.results16, go_sem]) rfl ⟨rfl, ((Below.refl _ _).alloc (Nat.le_refl _) _).alloc (by simp) _⟩
theorem kindOf_any (k a : Int) (n f : Nat) (w : World) : Calls Try.prog 16 #[.agg #[.int .i64 k, .int .i64 a, .float .f64 n, .float .f64 f]] w fun r w' => (∃ v1 v2 v3, r = .returned (.agg #[.int .i64 (szK k), v1, v2, v3])) ∧ Below w.heap.size w w' := by
  by_cases h0 : k = 0
  · subst h0
    exact (kindOf_zero a n f w).mono fun r w' h => ⟨⟨_, _, _, h.1⟩, h.2⟩
  by_cases h1 : k = 1
  · subst h1
    exact (kindOf_one a n f w).mono fun r w' h => ⟨⟨_, _, _, h.1⟩, h.2⟩
  by_cases h2 : k = 2
  · subst h2
    exact (kindOf_two a n f w).mono fun r w' h => ⟨⟨_, _, _, h.1⟩, h.2⟩
  by_cases h3 : k = 3
  · subst h3
    exact (kindOf_three a n f w).mono fun r w' h => ⟨⟨_, _, _, h.1⟩, h.2⟩
  by_cases h4 : k = 4
  · subst h4
    exact (kindOf_four a n f w).mono fun r w' h => ⟨⟨_, _, _, h.1⟩, h.2⟩
  have hs : szK k = 0 := by unfold szK; rw [if_neg (by simp [h0, h1, h4]), if_neg h2, if_neg h3]
  rw [hs]
  exact (kindOf_none k a n f w h0 h1 h2 h3 h4).mono fun r w' h => ⟨⟨_, _, _, h.1⟩, h.2⟩
theorem fin_order (x y : Nat) (hx : x < 18446744073709551616) (hy : y ≤ 9218868437227405312) (hf : (expOf x == 2047) = false) : ∃ o, FloatKind.f64.format.order x y = some o := by
  by_cases h : 9218868437227405312 < x % 9223372036854775808
  · unfold expOf canonOf at hf
    rw [if_pos h] at hf
    exact absurd hf (by decide)
  · exact ⟨_, order_eq x y hx (by omega) (by omega) (by omega)⟩
theorem twoW_h : twoW 1123 = 5057542381537067008 := by decide
theorem fl_two {W : World} {b x y : Nat} (h : W.heap[b]? = some (L2 x y)) (hx : x < 18446744073709551616) (hy : y < 18446744073709551616) : FlM W (some ⟨b, 0, none⟩) 2 2 [x, y] := by
  refine ⟨rfl, fun z hz => ?_, Or.inr ⟨b, 0, rfl, (Array.getElem?_eq_some_iff.1 h).1, Nat.le_refl _, by decide, fun j hj => ?_⟩⟩
  · simp at hz
    rcases hz with rfl | rfl
    · exact hx
    · exact hy
  · unfold L2 at h
    match j, hj with
    | 0, _ => simp [World.cell?, h]
    | 1, _ => simp [World.cell?, h]
theorem fin_two (n f : Nat) : finM [n, f] = (!(expOf n == 2047) && !(expOf f == 2047)) := by
  unfold finM
  simp
theorem flt_iff (x : Nat) : fltB x = true ↔ (FloatKind.f64.format.order x 0 = some .lt ∨ FloatKind.f64.format.order x 5057542381537067008 = some .gt) := by
  unfold fltB
  simp
theorem fieldK_run (a b c d : Value) (w : World) : (Instr.field 53 (.agg #[a, b, c, d]) 0).run Try.prog w = .ok a w := by
  unfold Instr.field
  simp [go_sem]
  rfl
def PBox (k a : Int) (n f : Nat) : Obj := .cells #[.int .i64 k, .int .i64 a, .float .f64 n, .float .f64 f] 45
theorem ptcells_of {W : World} {b : Nat} {k a : Int} {n f : Nat} (h : W.heap[b]? = some (PBox k a n f)) : W.cell? ⟨b, 0, none⟩ = some (.int .i64 k) ∧ W.cell? ⟨b, 1, none⟩ = some (.int .i64 a) ∧ W.cell? ⟨b, 2, none⟩ = some (.float .f64 n) ∧ W.cell? ⟨b, 3, none⟩ = some (.float .f64 f) := by
  unfold PBox at h
  refine ⟨?_, ?_, ?_, ?_⟩ <;> simp [World.cell?, h]
set_option maxRecDepth 2000 in
set_option maxHeartbeats 2000000 in
theorem checkPart_any (k a : Int) (n f : Nat) (w : World) (hn : n < 18446744073709551616) (hf : f < 18446744073709551616) : Calls Try.prog 15 #[.agg #[.int .i64 k, .int .i64 a, .float .f64 n, .float .f64 f]] w fun r w' => r = .returned (.int .i64 (ptE k a n f)) ∧ Below w.heap.size w w' := by
  have hfl := fieldK_run
  have HK := hid (fun W => kindOf_any k a n f W)
  have HF := hid (fun W (b : Nat) (h : W.heap[b]? = some (L2 n f)) => FinM_any (some ⟨b, 0, none⟩) 2 2 [n, f] W (fl_two h hn hf) (by decide))
  have HE : Hid (∀ E, ptE k a n f = E → (szK k = 0 → E = 140) ∧ (szK k ≠ 0 → (a < 1 ∨ 12 < a) → E = 1) ∧ (szK k ≠ 0 → ¬ (a < 1 ∨ 12 < a) → finM [n, f] = false → E = 4) ∧ (szK k ≠ 0 → ¬ (a < 1 ∨ 12 < a) → finM [n, f] = true → (fltB n = true ∨ fltB f = true) → E = 141) ∧ (szK k ≠ 0 → ¬ (a < 1 ∨ 12 < a) → finM [n, f] = true → ¬ (fltB n = true ∨ fltB f = true) → E = 0)) := hid (fun E h => by
    unfold ptE at h
    refine ⟨fun h0 => ?_, fun h0 h1 => ?_, fun h0 h1 h2 => ?_, fun h0 h1 h2 h3 => ?_, fun h0 h1 h2 h3 => ?_⟩
    · rw [if_pos h0] at h; exact h.symm
    · rw [if_neg h0, if_pos h1] at h; exact h.symm
    · rw [if_neg h0, if_neg h1, if_pos h2] at h; exact h.symm
    · rw [if_neg h0, if_neg h1, if_neg (by rw [h2]; decide), if_pos h3] at h; exact h.symm
    · rw [if_neg h0, if_neg h1, if_neg (by rw [h2]; decide), if_neg h3] at h; exact h.symm)
  rw [flt_iff, flt_iff] at HE
  obtain ⟨E, hE⟩ : ∃ E, ptE k a n f = E := ⟨_, rfl⟩
  have HE2 := hid (HE.out E hE)
  rw [hE]
  obtain ⟨z, hz⟩ : ∃ z, szK k = z := ⟨_, rfl⟩
  obtain ⟨B, hB⟩ : ∃ b, finM [n, f] = b := ⟨_, rfl⟩
  rw [hz, hB] at HE2
  rw [hz] at HK
  rw [hB] at HF
  have HB0 : Hid (Below w.heap.size w (w.alloc (PBox k a n f)) ∧ (w.alloc (PBox k a n f)).heap[w.heap.size]? = some (PBox k a n f)) := ⟨(Below.refl _ _).alloc (Nat.le_refl _) _, nblkM _ _⟩
  obtain ⟨V, hV⟩ : ∃ V, Hid (w.alloc (PBox k a n f) = V) := ⟨_, rfl⟩
  rw [hV.out] at HB0
  have hV' := hV.out
  unfold PBox at hV'
  obtain ⟨c0, c1, c2, c3⟩ := ptcells_of HB0.out.2
  clear hE HE hz hB hn hf
  go_enter Try.func15, Try.ntmps15
  go_wp2_with fail
  refine (HK.out _).mono ?_
  rintro e w1 ⟨⟨v1, v2, v3, rfl⟩, hb⟩
  have HB1 : Hid (Below w.heap.size w w1 ∧ w1.heap[w.heap.size]? = some (PBox k a n f)) := ⟨HB0.out.1.trans (hb.mono HB0.out.1.size), blkM HB0.out.2 hb⟩
  obtain ⟨c0, c1, c2, c3⟩ := ptcells_of HB1.out.2
  clear hb
  by_cases hz0 : z = 0
  · obtain rfl := HE2.out.1 hz0
    subst hz0
    go_wp2_with fail
    go_ret
    exact ⟨rfl, HB1.out.1⟩
  by_cases ha : a < 1
  · obtain rfl := HE2.out.2.1 hz0 (Or.inl ha)
    go_wp2_with fail
    go_ret
    exact ⟨rfl, HB1.out.1⟩
  by_cases ha2 : 12 < a
  · obtain rfl := HE2.out.2.1 hz0 (Or.inr ha2)
    go_wp2_with fail
    go_ret
    exact ⟨rfl, HB1.out.1⟩
  have HA : Hid (¬ (a < 1 ∨ 12 < a)) := fun h => h.elim ha ha2
  have HB2 : Hid (Below w.heap.size w (w1.alloc (L2 n f)) ∧ (w1.alloc (L2 n f)).heap[w.heap.size]? = some (PBox k a n f)) := ⟨HB1.out.1.alloc HB1.out.1.size _, blkM HB1.out.2 ((Below.refl _ _).alloc (Nat.le_refl _) _)⟩
  have HL : Hid ((w1.alloc (L2 n f)).heap[w1.heap.size]? = some (L2 n f)) := nblkM _ _
  unfold L2 at HL HF HB2
  go_wp2_with fail
  refine (HF.out _ _ HL.out).mono ?_
  rintro e w2 ⟨rfl, hb⟩
  have HB3 : Hid (Below w.heap.size w w2 ∧ w2.heap[w.heap.size]? = some (PBox k a n f)) := ⟨HB2.out.1.trans (hb.mono HB2.out.1.size), blkM HB2.out.2 hb⟩
  obtain ⟨c0, c1, c2, c3⟩ := ptcells_of HB3.out.2
  clear hb
  cases B with
  | false =>
    obtain rfl := HE2.out.2.2.1 hz0 HA.out rfl
    go_wp2_with fail
    go_ret
    exact ⟨rfl, HB3.out.1⟩
  | true =>
    have HX := hid (HE2.out.2.2.2.1 hz0 HA.out rfl)
    have HY := hid (HE2.out.2.2.2.2 hz0 HA.out rfl)
    by_cases q1 : FloatKind.f64.format.order n 0 = some .lt
    · obtain rfl := HX.out (Or.inl (Or.inl q1))
      go_wp2_with fail
      go_ret
      exact ⟨rfl, HB3.out.1⟩
    by_cases q2 : FloatKind.f64.format.order n 5057542381537067008 = some .gt
    · obtain rfl := HX.out (Or.inl (Or.inr q2))
      go_wp2_with fail
      go_ret
      exact ⟨rfl, HB3.out.1⟩
    by_cases q3 : FloatKind.f64.format.order f 0 = some .lt
    · obtain rfl := HX.out (Or.inr (Or.inl q3))
      go_wp2_with fail
      go_ret
      exact ⟨rfl, HB3.out.1⟩
    by_cases q4 : FloatKind.f64.format.order f 5057542381537067008 = some .gt
    · obtain rfl := HX.out (Or.inr (Or.inr q4))
      go_wp2_with fail
      go_ret
      exact ⟨rfl, HB3.out.1⟩
    obtain rfl := HY.out (fun h => h.elim (fun h => h.elim q1 q2) (fun h => h.elim q3 q4))
    have r1 : (FloatKind.f64.format.order n 0 == some .lt) = false := by simpa using q1
    have r2 : (FloatKind.f64.format.order n 5057542381537067008 == some .gt) = false := by simpa using q2
    have r3 : (FloatKind.f64.format.order f 0 == some .lt) = false := by simpa using q3
    have r4 : (FloatKind.f64.format.order f 5057542381537067008 == some .gt) = false := by simpa using q4
    go_wp2_with fail
    go_ret
    exact ⟨rfl, HB3.out.1⟩

end Go.Proofs.Ytggiklghcnojiaa

namespace Go.Proofs.Ytggiklghcnojiaa
open Go.RowKit Go.IntWalk

/-- The first error of the first k. -/
def scE (E : Nat → Int) : Nat → Int
  | 0 => 0
  | k + 1 => if scE E k = 0 then E k else scE E k
theorem scE_stop {E : Nat → Int} {k n : Nat} (h0 : scE E k = 0) (h1 : E k ≠ 0) (hk : k < n) : scE E n = E k := by
  induction n with
  | zero => omega
  | succ n ih =>
    show (if scE E n = 0 then E n else scE E n) = E k
    by_cases h : k = n
    · subst h
      rw [if_pos h0]
    · have := ih (by omega)
      rw [if_neg (by rw [this]; exact h1), this]
theorem scE_all {E : Nat → Int} {n : Nat} (h : scE E n = 0) : ∀ i, i < n → E i = 0 := by
  induction n with
  | zero => intro i hi; omega
  | succ n ih =>
    have h' : (if scE E n = 0 then E n else scE E n) = 0 := h
    by_cases h0 : scE E n = 0
    · rw [if_pos h0] at h'
      intro i hi
      by_cases hin : i = n
      · subst hin; exact h'
      · exact ih h0 i (by omega)
    · rw [if_neg h0] at h'
      exact absurd h' h0
theorem scE_step {E : Nat → Int} {k : Nat} (h0 : scE E k = 0) (h1 : E k = 0) : scE E (k + 1) = 0 := by
  show (if scE E k = 0 then E k else scE E k) = 0
  rw [if_pos h0, h1]
/-- The sum, held at 13; the sum. -/
def cS (S : Nat → Int) : Nat → Int
  | 0 => 0
  | k + 1 => min (cS S k + S k) 13
def uS (S : Nat → Int) : Nat → Int
  | 0 => 0
  | k + 1 => uS S k + S k
theorem cS_in (S : Nat → Int) (n : Nat) (h : ∀ i, i < n → 1 ≤ S i) : 0 ≤ cS S n ∧ cS S n ≤ 13 := by
  induction n with
  | zero => exact ⟨Int.le_refl _, (by decide : (0 : Int) ≤ 13)⟩
  | succ n ih =>
    have a := ih (fun i hi => h i (by omega))
    have b := h n (by omega)
    show 0 ≤ min (cS S n + S n) 13 ∧ min (cS S n + S n) 13 ≤ 13
    omega
theorem uS_is (S : Nat → Int) (n : Nat) (h : ∀ i, i < n → 1 ≤ S i) (hc : cS S n ≤ 12) : ∀ k, k ≤ n → uS S k = cS S k ∧ 0 ≤ cS S k ∧ cS S k ≤ 12 := by
  induction n with
  | zero =>
    intro k hk
    have : k = 0 := by omega
    subst this
    exact ⟨rfl, Int.le_refl _, (by decide : (0 : Int) ≤ 12)⟩
  | succ n ih =>
    have a := cS_in S n (fun i hi => h i (by omega))
    have b := h n (by omega)
    have hc' : min (cS S n + S n) 13 ≤ 12 := hc
    have d := ih (fun i hi => h i (by omega)) (by omega)
    intro k hk
    by_cases hkn : k = n + 1
    · subst hkn
      have e := (d n (Nat.le_refl _)).1
      show uS S n + S n = min (cS S n + S n) 13 ∧ 0 ≤ min (cS S n + S n) 13 ∧ min (cS S n + S n) 13 ≤ 12
      omega
    · exact d k (by omega)
/-- The numbers of a part. -/
def ptS (K A : Nat → Int) (i : Nat) : Int := A i * szK (K i)
def ptEs (K A : Nat → Int) (N F : Nat → Nat) (i : Nat) : Int := ptE (K i) (A i) (N i) (F i)
theorem szK_in (k : Int) : 0 ≤ szK k ∧ szK k ≤ 3 := by
  unfold szK
  split
  · omega
  · split
    · omega
    · split <;> omega
theorem ptS_in {K A : Nat → Int} {N F : Nat → Nat} {i : Nat} (h : ptEs K A N F i = 0) : 1 ≤ ptS K A i ∧ ptS K A i ≤ 36 ∧ (1 ≤ A i ∧ A i ≤ 12) ∧ 1 ≤ szK (K i) ∧ szK (K i) ≤ 3 := by
  unfold ptEs ptE at h
  have hz := szK_in (K i)
  by_cases h0 : szK (K i) = 0
  · rw [if_pos h0] at h; omega
  rw [if_neg h0] at h
  by_cases h1 : A i < 1 ∨ 12 < A i
  · rw [if_pos h1] at h; omega
  have a1 : 1 ≤ A i ∧ A i ≤ 12 := by omega
  have p1 : A i * szK (K i) ≤ 12 * 3 := Int.mul_le_mul a1.2 hz.2 (by omega) (by omega)
  have p2 : 0 < A i * szK (K i) := Int.mul_pos (by omega) (by omega)
  refine ⟨?_, ?_, a1, by omega, by omega⟩
  · show 1 ≤ A i * szK (K i); omega
  · show A i * szK (K i) ≤ 36; omega
/-- What Check tells; how many numbers Dim tells. -/
def dmE (n : Nat) (K A : Nat → Int) (N F : Nat → Nat) : Int := if n = 0 then 1 else if scE (ptEs K A N F) n ≠ 0 then scE (ptEs K A N F) n else if 12 < cS (ptS K A) n then 2 else 0
def dmV (n : Nat) (K A : Nat → Int) (N F : Nat → Nat) : Int := if dmE n K A N F = 0 then cS (ptS K A) n else 0
theorem dm_zero {n : Nat} {K A : Nat → Int} {N F : Nat → Nat} (h : dmE n K A N F = 0) : n ≠ 0 ∧ scE (ptEs K A N F) n = 0 ∧ cS (ptS K A) n ≤ 12 ∧ dmV n K A N F = cS (ptS K A) n ∧ (∀ k, k ≤ n → uS (ptS K A) k = cS (ptS K A) k ∧ 0 ≤ cS (ptS K A) k ∧ cS (ptS K A) k ≤ 12) ∧ 1 ≤ cS (ptS K A) n := by
  have hv : dmV n K A N F = cS (ptS K A) n := by unfold dmV; rw [if_pos h]
  unfold dmE at h
  by_cases h0 : n = 0
  · rw [if_pos h0] at h; omega
  rw [if_neg h0] at h
  by_cases h1 : scE (ptEs K A N F) n = 0
  · rw [if_neg (fun h => h h1)] at h
    by_cases h2 : 12 < cS (ptS K A) n
    · rw [if_pos h2] at h; omega
    have hall : ∀ i, i < n → 1 ≤ ptS K A i := fun i hi => (ptS_in (scE_all h1 i hi)).1
    refine ⟨h0, h1, by omega, hv, uS_is _ _ hall (by omega), ?_⟩
    obtain ⟨m, rfl⟩ : ∃ m, n = m + 1 := ⟨n - 1, by omega⟩
    have a := cS_in (ptS K A) m (fun i hi => hall i (by omega))
    have b := hall m (by omega)
    show 1 ≤ min (cS (ptS K A) m + ptS K A m) 13
    omega
  · rw [if_pos h1] at h
    exact absurd h h1
end Go.Proofs.Ytggiklghcnojiaa
