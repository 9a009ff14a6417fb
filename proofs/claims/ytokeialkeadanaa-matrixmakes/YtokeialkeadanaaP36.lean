
/- matrix: Equal of two shapes; Symmetric of a good one; Mean and Mirror as MatrixSymmetric asks them. (Written by mkmyc.py.) -/
import Derived.Test.YtokeialkeadanaaP35
namespace Go.Proofs.Ytokeialkeadanaa
open Go.RowKit Go.IntWalk

set_option maxRecDepth 4000 in
set_option maxHeartbeats 1000000 in
theorem Equal_shape (r c r2 c2 : Nat) (sa sb : Option Addr) (n m ca cb : Nat) (w : World) (hs : ¬ r = r2) :
    Calls Try.prog 32 #[MV r c sa n ca, MV r2 c2 sb m cb] w fun e w' => e = .returned (.bool false) ∧ Below w.heap.size w w' := by
  obtain ⟨t1, t2, t3, t4⟩ := two_b w (MBox r c sa n ca) (MBox r2 c2 sb m cb)
  have hne : ((r : Int) != (r2 : Int)) = true := by simp; omega
  obtain ⟨V, hV⟩ : ∃ V, Hid ((w.alloc (MBox r c sa n ca)).alloc (MBox r2 c2 sb m cb) = V) := ⟨_, rfl⟩
  rw [hV.out] at t1 t2 t3 t4
  have hV' := hV.out
  have HBV := hid t3
  obtain ⟨x0, x1, x2⟩ := mcells_of t1
  obtain ⟨v0, v1, v2⟩ := mcells_of t2
  unfold MBox at hV'
  unfold MV
  clear t1 t2 t3 t4 hs
  go_enter Try.func32, Try.ntmps32
  go_wp2_with fail
  go_ret
  exact ⟨rfl, HBV.out⟩
/-- Whether a matrix is its own transpose. -/
def symB (r c : Nat) (f : Nat → Nat) : Bool := decide (r = c) && eqF (r * c) f (fun k => f (k % c * c + k / c))
theorem symB_iff (c : Nat) (f : Nat → Nat) : symB c c f = true ↔ ∀ i j, i < c → j < c → canonOf (f (i * c + j)) = canonOf (f (j * c + i)) := by
  unfold symB
  rw [decide_eq_true (rfl : c = c), Bool.true_and, eqF_iff]
  constructor
  · intro h i j hi hj
    have := h (i * c + j) (place_lt hi hj)
    rw [this]
    have e1 : (i * c + j) % c = j := by rw [Nat.mul_comm, Nat.mul_add_mod]; exact Nat.mod_eq_of_lt hj
    have e2 : (i * c + j) / c = i := by rw [Nat.mul_comm, Nat.mul_add_div (by omega), Nat.div_eq_of_lt hj, Nat.add_zero]
    rw [e1, e2]
  · intro h k hk
    obtain ⟨q1, q2, q3⟩ := split_k hk
    have := h _ _ q1 q2
    rw [q3] at this
    exact this
theorem eq_turn {c : Nat} {f o : Nat → Nat} (h : ∀ i j, i < c → j < c → o (i * c + j) = f (j * c + i)) : eqF (c * c) f o = symB c c f := by
  rw [Bool.eq_iff_iff, eqF_iff, symB_iff]
  constructor
  · intro h1 i j hi hj
    rw [h1 _ (place_lt hi hj), h i j hi hj]
  · intro h1 k hk
    obtain ⟨q1, q2, q3⟩ := split_k hk
    have := h1 _ _ q1 q2
    rw [← h _ _ q1 q2, q3] at this
    exact this
/-- Mean of a good square: a symmetric matrix, or none. -/
theorem Mean_any (c n : Nat) (sa : Option Addr) (ka : Nat) (f : Nat → Nat) (w : World) (ha : Gd w c c sa n ka f) :
    Calls Try.prog 30 #[.agg #[.int .i64 c, .int .i64 c, .slice sa n ka]] w fun e w' => (∃ X0 X1 X2 X3 X4 E, e = .returned (.tuple #[.agg #[.int .i64 X0, .int .i64 X1, .slice X2 X3 X4], .int .i64 E]) ∧ SymR E w' X0 X1 X2 X3 X4) ∧ Below w.heap.size w w' := by
  refine (Mean_ok c n sa ka f w ha).mono ?_
  rintro e w' ⟨⟨g, o, rfl, hf, hv, _⟩, hbb⟩
  obtain ⟨X0, X1, X2, X3, X4, E, q1, q2⟩ := sym_of c g ha.1 o w' hf hv
  exact ⟨⟨X0, X1, X2, X3, X4, E, by rw [q1], q2⟩, hbb⟩
/-- Something that has the numbers of another one, or none. -/
def SamR (E : Int) (c : Nat) (f : Nat → Nat) (W : World) (X0 X1 : Int) (X2 : Option Addr) (X3 X4 : Nat) : Prop :=
  (E = 0 ∧ X0 = c ∧ X1 = c ∧ X3 = c * c ∧ ∃ o : Nat → Nat, FnM W X2 X3 X4 o ∧ ∀ k, k < c * c → canonOf (o k) = canonOf (f k)) ∨ E ≠ 0
theorem SamR.below {E : Int} {c : Nat} {f : Nat → Nat} {W W' : World} {X0 X1 : Int} {X2 : Option Addr} {X3 X4 : Nat} (h : SamR E c f W X0 X1 X2 X3 X4) (hb : Below W.heap.size W W') : SamR E c f W' X0 X1 X2 X3 X4 := by
  rcases h with ⟨h0, h1, h2, h3, o, h4, h5⟩ | h
  · exact Or.inl ⟨h0, h1, h2, h3, o, h4.below hb, h5⟩
  · exact Or.inr h
theorem SymR.below {E : Int} {W W' : World} {X0 X1 : Int} {X2 : Option Addr} {X3 X4 : Nat} (h : SymR E W X0 X1 X2 X3 X4) (hb : Below W.heap.size W W') : SymR E W' X0 X1 X2 X3 X4 := by
  rcases h with ⟨h0, r, o, h1, h2, h3, h4⟩ | h
  · exact Or.inl ⟨h0, r, o, h1, h2, h3.below hb, h4⟩
  · exact Or.inr h
theorem fin_expo {x : Nat} (h : (expOf x == 2047) = false) : x % 9223372036854775808 < 9218868437227405312 ∨ NaNW x ∨ 18446744073709551616 ≤ x := by
  by_cases hx : x < 18446744073709551616
  · rcases canon_is x hx with ⟨h1, _⟩ | ⟨_, h2⟩
    · exact Or.inr (Or.inl h1)
    · refine Or.inl ?_
      unfold expOf at h
      rw [h2] at h
      have : x / 4503599627370496 % 2048 ≠ 2047 := by simpa using h
      omega
  · exact Or.inr (Or.inr (by omega))
theorem fin_exp {x : Nat} (hx : x < 18446744073709551616) (h : (expOf x == 2047) = false) : x % 9223372036854775808 < 9218868437227405312 := by
  rcases fin_expo h with h1 | h1 | h1
  · exact h1
  · have := canon_nan h1
    unfold expOf at h
    rw [this] at h
    exact absurd h (by decide)
  · omega
/-- Mean of a symmetric one leaves it as it is. -/
theorem Mean_sym (c n : Nat) (sa : Option Addr) (ka : Nat) (f : Nat → Nat) (w : World) (ha : Gd w c c sa n ka f) (hs : ∀ i j, i < c → j < c → f (i * c + j) = f (j * c + i)) :
    Calls Try.prog 30 #[.agg #[.int .i64 c, .int .i64 c, .slice sa n ka]] w fun e w' => (∃ X0 X1 X2 X3 X4 E, e = .returned (.tuple #[.agg #[.int .i64 X0, .int .i64 X1, .slice X2 X3 X4], .int .i64 E]) ∧ SamR E c f w' X0 X1 X2 X3 X4) ∧ Below w.heap.size w w' := by
  have hfin := ha.2.2.2.2
  have hn := ha.2.2.1
  refine (Mean_ok c n sa ka f w ha).mono ?_
  rintro e w' ⟨⟨g, o, rfl, hf, hv, hm⟩, hbb⟩
  refine ⟨?_, hbb⟩
  unfold AnsM
  by_cases h : finF (c * c) o = true
  · rw [if_pos h, if_pos h]
    refine ⟨_, _, _, _, _, _, rfl, Or.inl ⟨rfl, rfl, rfl, rfl, o, hf, ?_⟩⟩
    have key : ∀ i j, i < c → j ≤ i → o (i * c + j) = f (i * c + j) := fun i j hi hj => by
      have hp := place_lt hi (show j < c by omega)
      have hx := fn_lt ha.2.2.2.1 (i * c + j) (by rw [hn]; exact hp)
      have hfx := fin_exp hx ((finF_iff _ _).1 hfin _ (by rw [hn]; exact hp))
      have ho := (finF_iff _ _).1 h _ hp
      rcases hm i j hi hj with ⟨rfl, h2⟩ | ⟨_, W1, W2, h2⟩
      · exact h2
      · rw [← hs i j hi (by omega)] at h2
        rw [h2] at ho ⊢
        exact half_same _ hx hfx W1 W2 ho
    intro k hk
    obtain ⟨q1, q2, q3⟩ := split_k hk
    rw [← q3]
    by_cases hij : k % c ≤ k / c
    · rw [key _ _ q1 hij]
    · rw [hv _ _ q1 q2, key _ _ q2 (by omega), hs _ _ q2 q1]
  · rw [if_neg h, if_neg h]
    exact ⟨_, _, _, _, _, _, rfl, Or.inr (by decide)⟩
end Go.Proofs.Ytokeialkeadanaa

namespace Go.Proofs.Ytokeialkeadanaa
open Go.RowKit Go.IntWalk

theorem side_yes (n : Nat) (h : n ≤ 12) : sideB n = true := by unfold sideB; simp; omega
set_option maxRecDepth 4000 in
set_option maxHeartbeats 1000000 in
theorem Zero_good (r c : Nat) (hr : r ≤ 12) (hc : c ≤ 12) (w : World) : Calls Try.prog 10 #[.int .i64 r, .int .i64 c] w fun e w' => (∃ g, e = .returned (.tuple #[MV r c (some ⟨g, 0, none⟩) (r * c) (r * c), .int .i64 0]) ∧ w.heap.size ≤ g ∧ w'.rowIs g 57 (r * c) (fun _ => .float .f64 0)) ∧ Below w.heap.size w w' := by
  have HS1 := hid (fun W => isSide_any r W)
  have HS2 := hid (fun W => isSide_any c W)
  rw [side_yes r hr] at HS1
  rw [side_yes c hc] at HS2
  have HZ := hid (fun W => zeros_any r c (by omega) (by omega) W)
  have HR : Hid ((w.alloc (MBox 0 0 none 0 0)).heap[w.heap.size]? = some (MBox 0 0 none 0 0)) := nblkM _ _
  have HB : Hid (Below w.heap.size w (w.alloc (MBox 0 0 none 0 0))) := (Below.refl _ _).alloc (Nat.le_refl _) _
  have HSZ : Hid ((w.alloc (MBox 0 0 none 0 0)).heap.size = w.heap.size + 1) := World.size_alloc _ _
  obtain ⟨V, hV⟩ : ∃ V, Hid (w.alloc (MBox 0 0 none 0 0) = V) := ⟨_, rfl⟩
  rw [hV.out] at HR HB HSZ
  have hV' := hV.out
  unfold MBox at hV'
  obtain ⟨N, hN⟩ : ∃ p, Hid (r * c = p) := ⟨_, rfl⟩
  rw [hN.out] at HZ ⊢
  unfold MV at HZ ⊢
  clear hr hc
  go_enter Try.func10, Try.ntmps10
  go_wp2_with fail
  refine (HS1.out _).mono ?_
  rintro e w1 ⟨rfl, rfl⟩
  go_wp2_with fail
  refine (HS2.out _).mono ?_
  rintro e w1 ⟨rfl, rfl⟩
  go_wp2_with fail
  refine (HZ.out _).mono ?_
  rintro e w2 ⟨rfl, hrow, hb2⟩
  have HB2 := hid (HB.out.trans (hb2.mono HB.out.size))
  have HR2 := hid (blkM HR.out hb2)
  have HW := hid hrow
  obtain ⟨g, hg⟩ : ∃ t, Hid (w1.heap.size + 1 = t) := ⟨_, rfl⟩
  rw [hg.out] at HW ⊢
  have HG : Hid (w.heap.size < g) := by
    have e1 := hg.out; have e2 := HSZ.out
    show _ < _
    omega
  obtain ⟨y0, y1, y2⟩ := mcells_of HR2.out
  have fz := frzM HR2.out
  clear hb2 hrow
  go_wp2_with fail
  exact bodyPost_ret (v := .tuple #[.agg #[.int .i64 r, .int .i64 c, .slice (some ⟨g, 0, none⟩) N N], .int .i64 0]) (by simp [results, Try.results10, go_sem, y0, y1, y2]) rfl ⟨⟨g, rfl, Nat.le_of_lt HG.out, HW.out.of_block (StoM.keep (Nat.ne_of_gt HG.out))⟩, StoM.below HB2.out (Nat.le_refl _)⟩
/-- The unit matrix' numbers. -/
def eyeF (n k : Nat) : Nat := if k / n = k % n then 4607182418800017408 else 0
theorem eye_at {n a b : Nat} (hb : b < n) : eyeF n (a * n + b) = if a = b then 4607182418800017408 else 0 := by
  unfold eyeF
  have e1 : (a * n + b) % n = b := by rw [Nat.mul_comm, Nat.mul_add_mod]; exact Nat.mod_eq_of_lt hb
  have e2 : (a * n + b) / n = a := by rw [Nat.mul_comm, Nat.mul_add_div (by omega), Nat.div_eq_of_lt hb, Nat.add_zero]
  rw [e1, e2]
theorem row_fn {W : World} {g N : Nat} {o : Nat → Nat} (h : W.rowIs g 57 N (fun k => .float .f64 (o k))) (ho : ∀ k, k < N → o k < 18446744073709551616) (hN : N ≤ 9223372036854775807) : FnM W (some ⟨g, 0, none⟩) N N o :=
  Or.inr ⟨g, 0, rfl, h.lt, Nat.le_refl _, hN, fun k hk => ⟨by rw [Nat.zero_add]; exact h.cell hk, ho k hk⟩⟩
set_option maxRecDepth 4000 in
set_option maxHeartbeats 2000000 in
theorem Eye_good (n : Nat) (hn : n ≤ 12) (w : World) : Calls Try.prog 13 #[.int .i64 n] w fun e w' => (∃ (g : Nat), e = .returned (.tuple #[.agg #[.int .i64 n, .int .i64 n, .slice (some ⟨g, 0, none⟩) (n * n) (n * n)], .int .i64 0]) ∧ Gd w' n n (some ⟨g, 0, none⟩) (n * n) (n * n) (eyeF n)) ∧ Below w.heap.size w w' := by
  have hst := fstoreM
  have hpp : n * n ≤ 144 := Nat.mul_le_mul hn hn
  have HZ := hid (fun W => Zero_good n n hn hn W)
  have HPL : Hid (∀ i j, i < n → j < n → i * n + j < n * n) := fun i j hi hj => place_lt hi hj
  have HN12 := hid hn
  have HEND : Hid (∀ (W : World) (g : Nat) (o : Nat → Nat), W.rowIs g 57 (n * n) (fun k => .float .f64 (o k)) → (∀ a b, a < n → b < n → o (a * n + b) = if a = b ∧ a < n then 4607182418800017408 else 0) → Gd W n n (some ⟨g, 0, none⟩) (n * n) (n * n) (eyeF n)) := fun W g o h1 h2 => by
    have ho : ∀ k, k < n * n → o k = eyeF n k := fun k hk => by
      obtain ⟨q1, q2, q3⟩ := split_k hk
      rw [← q3, h2 _ _ q1 q2, eye_at q2]
      by_cases h : k / n = k % n
      · rw [if_pos ⟨h, q1⟩, if_pos h]
      · rw [if_neg (fun hh => h hh.1), if_neg h]
    have hlt : ∀ k, eyeF n k < 18446744073709551616 := fun k => by unfold eyeF; split <;> decide
    refine ⟨hn, hn, rfl, (row_fn h1 (fun k hk => by rw [ho k hk]; exact hlt k) (by omega)).congr (fun k hk => ho k hk), finF_of (fun k _ => ?_)⟩
    unfold eyeF
    split <;> decide
  obtain ⟨N, hN⟩ : ∃ p, Hid (n * n = p) := ⟨_, rfl⟩
  rw [hN.out] at hpp HZ HPL HEND ⊢
  unfold MV at HZ
  have HR : Hid ((w.alloc (MBox 0 0 none 0 0)).heap[w.heap.size]? = some (MBox 0 0 none 0 0)) := nblkM _ _
  have HB : Hid (Below w.heap.size w (w.alloc (MBox 0 0 none 0 0))) := (Below.refl _ _).alloc (Nat.le_refl _) _
  have HSZ : Hid ((w.alloc (MBox 0 0 none 0 0)).heap.size = w.heap.size + 1) := World.size_alloc _ _
  obtain ⟨V, hV⟩ : ∃ V, Hid (w.alloc (MBox 0 0 none 0 0) = V) := ⟨_, rfl⟩
  rw [hV.out] at HR HB HSZ
  have hV' := hV.out
  unfold MBox at hV'
  clear hn
  go_enter Try.func13, Try.ntmps13
  go_wp2_with fail
  refine (HZ.out _).mono ?_
  rintro e w1 ⟨⟨g, rfl, hg, hrow⟩, hb1⟩
  have HSG : Hid (w.heap.size + 1 ≤ g ∧ g < w1.heap.size) := ⟨by have e2 := HSZ.out; omega, hrow.lt⟩
  have hal : Below w1.heap.size w1 (w1.alloc (MBox n n (some ⟨g, 0, none⟩) N N)) := (Below.refl _ _).alloc (Nat.le_refl _) _
  have HFR : Hid (FrF w (w1.alloc (MBox n n (some ⟨g, 0, none⟩) N N)) w1.heap.size w.heap.size (MBox n n (some ⟨g, 0, none⟩) N N) (MBox 0 0 none 0 0)) :=
    ⟨(HB.out.trans (hb1.mono HB.out.size)).trans (hal.mono (HB.out.trans (hb1.mono HB.out.size)).size), nblkM _ _, blkM (blkM HR.out hb1) hal⟩
  have HR0 : Hid ((w1.alloc (MBox n n (some ⟨g, 0, none⟩) N N)).rowIs g 57 N (fun _ => .float .f64 0)) := hrow.of_block (hal.block _ hrow.lt)
  obtain ⟨V1, hV1⟩ : ∃ V, Hid (w1.alloc (MBox n n (some ⟨g, 0, none⟩) N N) = V) := ⟨_, rfl⟩
  rw [hV1.out] at HFR HR0
  have hW1 := hV1.out
  obtain ⟨mb, hmb⟩ : ∃ V, Hid (w1.heap.size = V) := ⟨_, rfl⟩
  obtain ⟨rb, hrb⟩ : ∃ V, Hid (w.heap.size = V) := ⟨_, rfl⟩
  have HNE : Hid (mb ≠ g ∧ rb ≠ g ∧ w.heap.size ≤ g) := by
    have e1 := hmb.out; have e2 := hrb.out; have e4 := HSG.out
    show _ ∧ _ ∧ _
    omega
  rw [hmb.out, hrb.out] at HFR
  have hmb1 := hmb.out
  have hrb1 := hrb.out
  unfold MBox at hW1
  clear hal hg hrow hb1 HZ
  go_wp2_with fail
  go_loopw [20] (fun iv wr => ∃ (i : Nat) (o : Nat → Nat), i ≤ n ∧ iv = .int .i64 i ∧ Hid (wr.rowIs g 57 N (fun k => .float .f64 (o k))) ∧ Hid (∀ a b, a < n → b < n → o (a * n + b) = if a = b ∧ a < i then 4607182418800017408 else 0) ∧ Hid (FrF w wr mb rb (MBox n n (some ⟨g, 0, none⟩) N N) (MBox 0 0 none 0 0))) (fun iv _ => n - (intOf iv).toNat)
  case atStart => exact ⟨0, fun _ => 0, Nat.zero_le _, rfl, HR0, fun a b _ _ => by rw [if_neg (fun h => absurd h.2 (Nat.not_lt_zero a))], HFR⟩
  case round =>
    obtain ⟨i, o, hi, rfl, HR1, HP, HFW⟩ := hrel
    by_cases hlt : i < n
    · have hiI : (i : Int) < (n : Int) := by omega
      have HI := hid hlt
      have hkN := HPL.out i i hlt hlt
      have hp : i * n ≤ 144 := by omega
      have e1 : (i : Int) * (n : Int) = ((i * n : Nat) : Int) := by simp
      obtain ⟨p, hp'⟩ : ∃ p, Hid (i * n = p) := ⟨_, rfl⟩
      rw [hp'.out] at e1 hp hkN
      have e2 : (p : Int) + (i : Int) = ((p + i : Nat) : Int) := by simp
      obtain ⟨k, hk'⟩ : ∃ k, Hid (p + i = k) := ⟨_, rfl⟩
      have e3 := wrapM p (by omega)
      have e4 := wrapM k (by rw [← hk'.out]; omega)
      rw [hk'.out] at e2 hkN
      have k0 : (0 : Int) ≤ (k : Int) := by omega
      have k1 : (k : Int) < (N : Int) := by omega
      have cx := HR1.out.cell (i := k) hkN
      have fx := HR1.out.frozen k
      obtain ⟨m0, m1, m2⟩ := mcells_of HFW.out.2.1
      clear hlt hkN hp
      go_wp2_with fail
      have hkk : i * n + i = k := by rw [hp'.out, hk'.out]
      have hi1 := HI.out
      refine ⟨⟨i + 1, fun t => if t = k then 4607182418800017408 else o t, by omega, by go_num, ?_, fun a b ha hb => ?_, HFW.out.set HNE.out.1 HNE.out.2.1 HNE.out.2.2 _⟩, ?_⟩
      · refine (HR1.out.set k _).congr (fun t _ => ?_)
        by_cases ht : t = k <;> simp [ht]
      · by_cases h : a * n + b = k
        · obtain ⟨ea, eb⟩ := place_ne hb hi1 (h.trans hkk.symm)
          dsimp only
          rw [if_pos h, if_pos ⟨by omega, by omega⟩]
        · dsimp only
          rw [if_neg h, HP.out a b ha hb]
          by_cases hab : a = b ∧ a < i
          · rw [if_pos hab, if_pos ⟨hab.1, by omega⟩]
          · rw [if_neg hab, if_neg (fun hc => hab ⟨hc.1, by
              have : a ≠ i := fun hh => h (by rw [← hc.1, hh]; exact hkk)
              omega⟩)]
      · simp [intOf]; omega
    · obtain rfl : i = n := by omega
      obtain ⟨m0, m1, m2⟩ := mcells_of HFW.out.2.1
      obtain ⟨b0, b1, b2⟩ := mcells_of HFW.out.2.2
      have fz := frzM HFW.out.2.2
      go_wp2_with fail
      exact bodyPost_ret (v := .tuple #[.agg #[.int .i64 i, .int .i64 i, .slice (some ⟨g, 0, none⟩) N N], .int .i64 0]) (by simp [results, Try.results13, go_sem, b0, b1, b2]) rfl ⟨⟨g, rfl, HEND.out _ g o (HR1.out.of_block (StoM.keep (Ne.symm HNE.out.2.1))) HP.out⟩, StoM.below HFW.out.1 (by have := hrb.out; omega)⟩
end Go.Proofs.Ytokeialkeadanaa
