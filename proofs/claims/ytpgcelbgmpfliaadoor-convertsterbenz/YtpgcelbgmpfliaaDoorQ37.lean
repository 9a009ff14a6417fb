
/- What convert's Int does with what Whole answers: the other widths. -/
import Derived.Test.YtpgcelbgmpfliaaDoorQ36
import Derived.Test.YtpgcelbgmpfliaaDoorQ27
namespace Go.Proofs.YtpgcelbgmpfliaaDoor
open Go Go.RowKit Go.IntWalk

theorem quotient_flip (k : Nat) (d e : Ieee.Datum) : d.quotient k e.opposite = (d.quotient k e).map Ieee.Datum.opposite ∧ ∀ c, d.quotient k e = some c → c.isNaN = false := by
  cases d with
  | nan s t => cases e <;> exact ⟨rfl, fun c h => (by cases h)⟩
  | infinity s =>
    cases e with
    | nan t u => exact ⟨rfl, fun c h => (by cases h)⟩
    | infinity t => exact ⟨rfl, fun c h => (by cases h)⟩
    | number t n j =>
      refine ⟨?_, fun c h => (by cases h; rfl)⟩
      show some (Ieee.Datum.infinity (s ^^ !t)) = some (Ieee.Datum.infinity (!(s ^^ t)))
      cases s <;> cases t <;> rfl
  | number s m i =>
    cases e with
    | nan t u => exact ⟨rfl, fun c h => (by cases h)⟩
    | infinity t =>
      refine ⟨?_, fun c h => (by cases h; rfl)⟩
      show some (Ieee.Datum.number (s ^^ !t) 0 0) = some (Ieee.Datum.number (!(s ^^ t)) 0 0)
      cases s <;> cases t <;> rfl
    | number t n j =>
      have hx : (s ^^ !t) = !(s ^^ t) := by cases s <;> cases t <;> rfl
      unfold Ieee.Datum.quotient Ieee.Datum.opposite
      simp only [hx]
      by_cases hn : n = 0
      · rw [if_pos hn, if_pos hn]
        by_cases hm : m = 0
        · rw [if_pos hm, if_pos hm]; exact ⟨rfl, fun c h => (by cases h)⟩
        · rw [if_neg hm, if_neg hm]; exact ⟨rfl, fun c h => (by cases h; rfl)⟩
      · rw [if_neg hn, if_neg hn]; exact ⟨rfl, fun c h => (by cases h; rfl)⟩
theorem div_flip (A B : Nat) (hB : B < 18446744073709551616) : (FloatKind.f64.format.div A B = none → FloatKind.f64.format.div A (flipOf B) = none) ∧ ∀ p, FloatKind.f64.format.div A B = some p → (∃ s R, R ≤ 9218868437227405312 ∧ p = signN s R) ∧ FloatKind.f64.format.div A (flipOf B) = some (flipOf p) := by
  unfold Ieee.Format.div
  rw [read_flip B hB]
  obtain ⟨h1, h2⟩ := quotient_flip (FloatKind.f64.format.fractionBits + 2) (FloatKind.f64.format.read A) (FloatKind.f64.format.read B)
  rw [h1]
  cases hc : (FloatKind.f64.format.read A).quotient (FloatKind.f64.format.fractionBits + 2) (FloatKind.f64.format.read B) with
  | none => exact ⟨fun _ => rfl, fun p h => (by cases h)⟩
  | some c =>
    refine ⟨fun h => (by cases h), fun p h => ?_⟩
    obtain ⟨s, R, hR, e1, e2⟩ := write_form c (h2 c hc)
    have hp : p = signN s R := by
      have : some (FloatKind.f64.format.write c) = some p := h
      rw [e1] at this
      exact (Option.some.inj this).symm
    refine ⟨⟨s, R, hR, hp⟩, ?_⟩
    show some (FloatKind.f64.format.write c.opposite) = some (flipOf p)
    rw [e2, hp, flip_sign s R (by omega)]
theorem div_nan (A B : Nat) (h : 9218868437227405312 < A % 9223372036854775808 ∨ 9218868437227405312 < B % 9223372036854775808) : FloatKind.f64.format.div A B = none := by
  unfold Ieee.Format.div
  rcases h with h | h
  · obtain ⟨s, t, e⟩ := read_nan A h
    rw [e]
    cases FloatKind.f64.format.read B <;> rfl
  · obtain ⟨s, t, e⟩ := read_nan B h
    rw [e]
    cases FloatKind.f64.format.read A <;> rfl
theorem read_zero (x : Nat) (hx : x < 18446744073709551616) (h : x % 9223372036854775808 = 0) : ∃ s p, FloatKind.f64.format.read x = .number s 0 p := by
  obtain ⟨m, p, e, v⟩ := read_fin x hx (by omega)
  rw [h, nv_zero] at v
  have hm : m = 0 := by
    rcases Nat.mul_eq_zero.1 v with c | c
    · exact c
    · exact absurd c (Nat.pos_iff_ne_zero.1 (Nat.two_pow_pos p))
  exact ⟨_, _, by rw [e, hm]⟩
/-- Where one is infinite or 0, a quotient is infinite or 0. -/
theorem div_special (A B : Nat) (hA : A < 18446744073709551616) (hB : B < 18446744073709551616) (nA : A % 9223372036854775808 ≤ 9218868437227405312) (nB : B % 9223372036854775808 ≤ 9218868437227405312)
    (h : A % 9223372036854775808 = 9218868437227405312 ∨ B % 9223372036854775808 = 9218868437227405312 ∨ A % 9223372036854775808 = 0 ∨ B % 9223372036854775808 = 0) :
    FloatKind.f64.format.div A B = none ∨ ∃ s, FloatKind.f64.format.div A B = some (signN s 0) ∨ FloatKind.f64.format.div A B = some (signN s 9218868437227405312) := by
  have winf : ∀ s, FloatKind.f64.format.write (.infinity s) = signN s 9218868437227405312 := fun s => by
    show FloatKind.f64.format.word s FloatKind.f64.format.infRung = _
    rw [word_sign, fmt_inf]
  have wz : ∀ s p, FloatKind.f64.format.write (.number s 0 p) = signN s 0 := fun s p => by
    show FloatKind.f64.format.nearest s 0 p = _
    rw [nearest_zero, word_sign]
  unfold Ieee.Format.div
  by_cases iA : A % 9223372036854775808 = 9218868437227405312
  · rw [read_inf A hA iA]
    by_cases iB : B % 9223372036854775808 = 9218868437227405312
    · rw [read_inf B hB iB]; exact Or.inl rfl
    · obtain ⟨n, q, eB, _⟩ := read_fin B hB (by omega)
      rw [eB]
      refine Or.inr ⟨(decide (9223372036854775808 ≤ A) ^^ decide (9223372036854775808 ≤ B)), Or.inr ?_⟩
      show some (FloatKind.f64.format.write (.infinity _)) = _
      rw [winf]
  · obtain ⟨m, p, eA, vA⟩ := read_fin A hA (by omega)
    by_cases iB : B % 9223372036854775808 = 9218868437227405312
    · rw [read_inf B hB iB, eA]
      refine Or.inr ⟨(decide (9223372036854775808 ≤ A) ^^ decide (9223372036854775808 ≤ B)), Or.inl ?_⟩
      show some (FloatKind.f64.format.write (.number _ 0 0)) = _
      rw [wz]
    · by_cases zB : B % 9223372036854775808 = 0
      · obtain ⟨t, q, eB⟩ := read_zero B hB zB
        rw [eB, eA]
        by_cases hm : m = 0
        · left
          unfold Ieee.Datum.quotient
          simp only [if_pos, hm]
          rfl
        · refine Or.inr ⟨(decide (9223372036854775808 ≤ A) ^^ t), Or.inr ?_⟩
          unfold Ieee.Datum.quotient
          simp only [if_pos, if_neg hm]
          show some (FloatKind.f64.format.write (.infinity _)) = _
          rw [winf]
      · have zA : A % 9223372036854775808 = 0 := by omega
        obtain ⟨s, q, eA'⟩ := read_zero A hA zA
        obtain ⟨n, u, eB, vB⟩ := read_fin B hB (by omega)
        have hn : n ≠ 0 := by
          intro c
          rw [c, Nat.zero_mul] at vB
          have := nv_lt (r := 0) (s := B % 9223372036854775808) (by omega)
          omega
        rw [eA', eB]
        refine Or.inr ⟨(s ^^ decide (9223372036854775808 ≤ B)), Or.inl ?_⟩
        unfold Ieee.Datum.quotient
        simp only [if_neg hn, Nat.zero_shiftLeft, Nat.zero_div, Nat.zero_mod]
        show some (FloatKind.f64.format.write (.number _ 0 _)) = _
        rw [wz]

theorem mul_pair (A B : Nat) (mode : Int) (hA : A < 18446744073709551616) (hB : B < 18446744073709551616) : ∃ X X' Y, Mir X X' ∧
    (∀ w, Tab w → 1 < w.heap.size → Calls Tryd.prog 34 #[.float .f64 A, .float .f64 B, .int .i64 mode] w fun e w' => e = .returned (.tuple #[.float .f32 X, .int .i64 Y]) ∧ Below w.heap.size w w') ∧
    (∀ w, Tab w → 1 < w.heap.size → Calls Tryd.prog 34 #[.float .f64 (flipOf A), .float .f64 B, .int .i64 (turnM mode)] w fun e w' => e = .returned (.tuple #[.float .f32 X', .int .i64 Y]) ∧ Below w.heap.size w w') := by
  obtain ⟨e1, _⟩ := flip_mod A hA
  by_cases hn : 9218868437227405312 < A % 9223372036854775808 ∨ 9218868437227405312 < B % 9223372036854775808
  · exact ⟨_, _, _, Or.inl ⟨rfl, rfl⟩, fun w hT hs => mult_nan A B mode w hA hB hn hT hs, fun w hT hs => mult_nan _ B _ w (flip_lt hA) hB (by rw [e1]; exact hn) hT hs⟩
  · obtain ⟨f1, f2⟩ := mul_flip A B hA
    cases hc : FloatKind.f64.format.mul A B with
    | none => exact ⟨_, _, _, Or.inl ⟨rfl, rfl⟩, fun w _ _ => mult_bad A B mode w hA hB (by omega) (by omega) hc, fun w _ _ => mult_bad _ B _ w (flip_lt hA) hB (by omega) (by omega) (f1 hc)⟩
    | some p =>
      obtain ⟨⟨s, R, hR, hp⟩, h2⟩ := f2 p hc
      obtain ⟨a1, _, a3⟩ := signN_mod s R (by omega)
      rw [← hp] at a1 a3
      obtain ⟨g1, g2⟩ := narrow_flip p mode a3
      obtain ⟨q1, _⟩ := flip_mod p a3
      refine ⟨_, _, _, g1, fun w hT hs => mult_some A B p mode w a3 (by omega) hc hT hs, fun w hT hs => ?_⟩
      have := mult_some (flipOf A) B (flipOf p) (turnM mode) w (flip_lt a3) (by omega) h2 hT hs
      rw [g2] at this
      exact this
theorem conv_edge (R : Nat) (h : R = 0 ∨ R = 9218868437227405312) : ∃ r, r ≤ 2139095040 ∧ ∀ s, floatToFloatBits .f64 (signN s R) .f32 = some (signN32 s r) := by
  rcases h with h | h
  · exact ⟨0, by decide, fun s => by rw [h]; exact narrow_conv s 0 0 (by decide) (by decide) (by rw [nv_zero, nv_zero32, Nat.zero_mul])⟩
  · exact ⟨2139095040, Nat.le_refl _, fun s => by rw [h]; exact narrow_inf s⟩
theorem flip_zero (B : Nat) (hB : B < 18446744073709551616) : (FloatKind.f64.format.order (flipOf B) 0 == some .eq) = (FloatKind.f64.format.order B 0 == some .eq) := by
  rw [order_zero B hB, order_zero _ (flip_lt hB), (flip_mod B hB).1]
theorem isnan_of (x : Nat) (b : Bool) (hx : x < 18446744073709551616) (h : decide (9218868437227405312 < x % 9223372036854775808) = b) (w : World) : Calls Tryd.prog 52 #[.float .f64 x] w fun r w' => r = .returned (.bool b) ∧ w' = w := by
  rw [← h]; exact isnan_any x w hx
theorem div_pair (A B : Nat) (mode : Int) (hA : A < 18446744073709551616) (hB : B < 18446744073709551616) : ∃ X X' Y, Mir X X' ∧
    (∀ w, Tab w → 1 < w.heap.size → Calls Tryd.prog 36 #[.float .f64 A, .float .f64 B, .int .i64 mode] w fun e w' => e = .returned (.tuple #[.float .f32 X, .int .i64 Y]) ∧ Below w.heap.size w w') ∧
    (∀ w, Tab w → 1 < w.heap.size → Calls Tryd.prog 36 #[.float .f64 A, .float .f64 (flipOf B), .int .i64 (turnM mode)] w fun e w' => e = .returned (.tuple #[.float .f32 X', .int .i64 Y]) ∧ Below w.heap.size w w') := by
  obtain ⟨e1, e2⟩ := flip_mod B hB
  have hB' := flip_lt hB
  by_cases hf : pErr A = 0 ∧ pErr B = 0 ∧ pMant A ≠ 0 ∧ pMant B ≠ 0
  · obtain ⟨a1, b1, a2, b2⟩ := hf
    have fin : ∀ x, pErr x = 0 → pMant x ≠ 0 → x < 18446744073709551616 → x % 9223372036854775808 < 9218868437227405312 ∧ x % 9223372036854775808 ≠ 0 := by
      intro x h1 h2 hx
      have h3 : x % 9223372036854775808 < 9218868437227405312 := by
        apply Classical.byContradiction
        intro c
        exact exp_inf x (by omega) h1
      refine ⟨h3, fun c => h2 ?_⟩
      obtain ⟨v1, _, _, v4, _⟩ := parts_val x h3
      unfold pMant; rw [if_neg v1, v4.2 c]; decide
    obtain ⟨fA, zA⟩ := fin A a1 a2 hA
    obtain ⟨fB, zB⟩ := fin B b1 b2 hB
    obtain ⟨_, vA2, _, vA4, vA5⟩ := parts_val A fA
    obtain ⟨vB1, vB2, _, vB4, vB5⟩ := parts_val B fB
    obtain ⟨_, pA2, _, pA4, pA5, pA6⟩ := vA5 (fun c => zA (vA4.1 c))
    obtain ⟨_, pB2, _, pB4, pB5, pB6⟩ := vB5 (fun c => zB (vB4.1 c))
    have kA := bitLen_pos a2
    have kB := bitLen_pos b2
    obtain ⟨g1, g2, g3⟩ := parts_flip B hB (by omega)
    obtain ⟨vF1, vF2, _, _, _⟩ := parts_val (flipOf B) (by rw [e1]; exact fB)
    have hNB : pNeg (flipOf B) = !pNeg B := by unfold pNeg; rw [if_neg vB1, if_neg vF1, vF2, vB2, e2]
    have hx : (pNeg A != !pNeg B) = !(pNeg A != pNeg B) := by cases pNeg A <;> cases pNeg B <;> rfl
    obtain ⟨_, n2⟩ := n_conv (qMant (pMant A) (pMant B)) (pExp A - ((64 - bitLen (pMant A) : Nat) : Int) - pExp B) mode (pNeg A != pNeg B)
    refine ⟨_, _, _, Or.inr ⟨pNeg A != pNeg B, nMag (qMant (pMant A) (pMant B)) (pExp A - ((64 - bitLen (pMant A) : Nat) : Int) - pExp B) mode (pNeg A != pNeg B), n2, rfl, rfl⟩, fun w hT hs => division_fin A B _ _ _ _ _ _ _ _ mode w hT hs (fun w hT hs => Parts_any A w hA hT hs) (fun w hT hs => Parts_any B w hB hT hs) a1 b1 a2 b2 pA6 (by omega) (by omega) (by omega) (by omega), fun w hT hs => ?_⟩
    have := division_fin A (flipOf B) _ _ _ _ _ _ _ _ (turnM mode) w hT hs (fun w hT hs => Parts_any A w hA hT hs) (fun w hT hs => Parts_any (flipOf B) w hB' hT hs) a1 (by rw [g3]; exact b1) a2 (by rw [g1]; exact b2) pA6 (by omega) (by omega) (by rw [g2]; omega) (by rw [g2]; omega)
    rw [hNB, g1, g2, hx, nMag_turn, (rnd_turn 24 (-126) 127 _ _ mode (pNeg A != pNeg B)).2] at this
    exact this
  · have hcase : ∀ RA RB : Int, ∀ MA MB : Nat, ¬ (RA = 0 ∧ RB = 0 ∧ MA ≠ 0 ∧ MB ≠ 0) → (RA == 0) = false ∨ (RA = 0 ∧ (RB == 0) = false) ∨ (RA = 0 ∧ RB = 0 ∧ ((MA : Int) != 0) = false) ∨ (RA = 0 ∧ RB = 0 ∧ ((MA : Int) != 0) = true ∧ ((MB : Int) != 0) = false) := by
      intro RA RB MA MB h
      by_cases c1 : RA = 0
      · by_cases c2 : RB = 0
        · by_cases c3 : MA = 0
          · right; right; left; exact ⟨c1, c2, by simp [c3]⟩
          · right; right; right; exact ⟨c1, c2, by simpa using c3, by
              have : MB = 0 := by
                apply Classical.byContradiction
                intro c4
                exact h ⟨c1, c2, c3, c4⟩
              simp [this]⟩
        · right; left; exact ⟨c1, by simpa using c2⟩
      · left; simpa using c1
    have hc1 := hcase _ _ _ _ hf
    by_cases nA : 9218868437227405312 < A % 9223372036854775808
    · have hq := div_nan A B (Or.inl nA)
      have hq' := div_nan A (flipOf B) (Or.inl nA)
      refine ⟨_, _, _, Or.inl ⟨rfl, rfl⟩, fun w hT hs => division_nanA _ A B _ _ _ _ _ _ _ _ mode w hT hs (fun w hT hs => Parts_any A w hA hT hs) (fun w hT hs => Parts_any B w hB hT hs) hc1 hq (isnan_of A true hA (decide_eq_true nA)) (isnan_of B _ hB rfl),
        fun w hT hs => division_nanA _ A (flipOf B) _ _ _ _ _ _ _ _ _ w hT hs (fun w hT hs => Parts_any A w hA hT hs) (fun w hT hs => Parts_any _ w hB' hT hs) (Or.inl ?_) hq' (isnan_of A true hA (decide_eq_true nA)) (isnan_of _ _ hB' rfl)⟩
      have := exp_inf A (by omega)
      simpa using this
    · by_cases nB : 9218868437227405312 < B % 9223372036854775808
      · have hq := div_nan A B (Or.inr nB)
        have hq' := div_nan A (flipOf B) (Or.inr (by rw [e1]; exact nB))
        have hEB' : pErr (flipOf B) ≠ 0 := exp_inf _ (by rw [e1]; omega)
        refine ⟨_, _, _, Or.inl ⟨rfl, rfl⟩, fun w hT hs => division_nanB A B _ _ _ _ _ _ _ _ mode w hT hs (fun w hT hs => Parts_any A w hA hT hs) (fun w hT hs => Parts_any B w hB hT hs) hc1 hq (isnan_of A false hA (decide_eq_false nA)) (isnan_of B true hB (decide_eq_true nB)),
          fun w hT hs => division_nanB A (flipOf B) _ _ _ _ _ _ _ _ _ w hT hs (fun w hT hs => Parts_any A w hA hT hs) (fun w hT hs => Parts_any _ w hB' hT hs) (hcase _ _ _ _ (fun c => hEB' c.2.1)) hq' (isnan_of A false hA (decide_eq_false nA)) (isnan_of _ true hB' (decide_eq_true (by rw [e1]; exact nB)))⟩
      · obtain ⟨g1, g2, g3⟩ := parts_flip B hB (by omega)
        have hf' : ¬ (pErr A = 0 ∧ pErr (flipOf B) = 0 ∧ pMant A ≠ 0 ∧ pMant (flipOf B) ≠ 0) := by rw [g1, g3]; exact hf
        have hc2 := hcase _ _ _ _ hf'
        obtain ⟨f1, f2⟩ := div_flip A B hB
        cases hc : FloatKind.f64.format.div A B with
        | none =>
          exact ⟨_, _, _, Or.inl ⟨rfl, rfl⟩, fun w hT hs => division_bad A B _ _ _ _ _ _ _ _ mode w hT hs (fun w hT hs => Parts_any A w hA hT hs) (fun w hT hs => Parts_any B w hB hT hs) hc1 hc (isnan_of A false hA (decide_eq_false nA)) (isnan_of B false hB (decide_eq_false nB)),
            fun w hT hs => division_bad A (flipOf B) _ _ _ _ _ _ _ _ _ w hT hs (fun w hT hs => Parts_any A w hA hT hs) (fun w hT hs => Parts_any _ w hB' hT hs) hc2 (f1 hc) (isnan_of A false hA (decide_eq_false nA)) (isnan_of _ false hB' (decide_eq_false (by rw [e1]; exact nB)))⟩
        | some p =>
          obtain ⟨_, h2⟩ := f2 p hc
          have hsp : A % 9223372036854775808 = 9218868437227405312 ∨ B % 9223372036854775808 = 9218868437227405312 ∨ A % 9223372036854775808 = 0 ∨ B % 9223372036854775808 = 0 := by
            apply Classical.byContradiction
            intro c
            have good : ∀ x, x % 9223372036854775808 < 9218868437227405312 → x % 9223372036854775808 ≠ 0 → pErr x = 0 ∧ pMant x ≠ 0 := by
              intro x h3 h4
              obtain ⟨v1, _, _, v4, v5⟩ := parts_val x h3
              exact ⟨by unfold pErr; rw [if_neg v1], (v5 (fun c => h4 (v4.1 c))).1⟩
            obtain ⟨u1, u2⟩ := good A (by omega) (by omega)
            obtain ⟨u3, u4⟩ := good B (by omega) (by omega)
            exact hf ⟨u1, u3, u2, u4⟩
          obtain ⟨s, R, hRe, hp⟩ : ∃ s R, (R = 0 ∨ R = 9218868437227405312) ∧ p = signN s R := by
            rcases div_special A B hA hB (by omega) (by omega) hsp with h | ⟨s, h | h⟩
            · rw [hc] at h; cases h
            · rw [hc] at h; exact ⟨s, 0, Or.inl rfl, Option.some.inj h⟩
            · rw [hc] at h; exact ⟨s, _, Or.inr rfl, Option.some.inj h⟩
          have hRl : R ≤ 9218868437227405312 := by omega
          obtain ⟨a1, _, a3⟩ := signN_mod s R (by omega)
          obtain ⟨r, hr, hcv⟩ := conv_edge R hRe
          have hpf : flipOf p = signN (!s) R := by rw [hp]; exact flip_sign s R (by omega)
          obtain ⟨b1, _, b3⟩ := signN_mod (!s) R (by omega)
          refine ⟨_, _, _, Or.inr ⟨s, r, hr, rfl, rfl⟩, fun w hT hs => division_some A B _ _ _ _ _ _ _ _ mode w hT hs (fun w hT hs => Parts_any A w hA hT hs) (fun w hT hs => Parts_any B w hB hT hs) hc1 p _ hc (isnan_of A false hA (decide_eq_false nA)) (isnan_of B false hB (decide_eq_false nB)) (isnan_of p false (by rw [hp]; exact a3) (decide_eq_false (by rw [hp, a1]; omega))) (fun w => conv_run _ _ (by rw [hp]; exact hcv s) w) _ _ rfl rfl, fun w hT hs => ?_⟩
          exact division_some A (flipOf B) _ _ _ _ _ _ _ _ _ w hT hs (fun w hT hs => Parts_any A w hA hT hs) (fun w hT hs => Parts_any _ w hB' hT hs) hc2 (flipOf p) _ h2 (isnan_of A false hA (decide_eq_false nA)) (isnan_of _ false hB' (decide_eq_false (by rw [e1]; exact nB))) (isnan_of _ false (by rw [hpf]; exact b3) (decide_eq_false (by rw [hpf, b1]; omega))) (fun w => conv_run _ _ (by rw [hpf]; exact hcv (!s)) w) _ _ (by rw [flip_zero B hB]) rfl
end Go.Proofs.YtpgcelbgmpfliaaDoor

namespace Go.Proofs.YtpgcelbgmpfliaaDoor
open Go.RowKit Go.IntWalk

theorem least16_is : floatOfInt .f64 (-32768) = 13898108450065350656 := by decide +kernel
theorem least16_neg : Op.unary .neg (.float .f64 13898108450065350656) = pure (.float .f64 4674736413210574848) := rfl
set_option maxHeartbeats 400000 in
theorem Int16_in (x X : Nat) (mode Y n : Int) (w : World) (hX : X < 18446744073709551616) (hn : X % 9223372036854775808 ≤ 9218868437227405312)
    (h1 : (FloatKind.f64.format.order X 13898108450065350656 == some .lt) = false) (h2 : (FloatKind.f64.format.order X 4674736413210574848 == some .gt || FloatKind.f64.format.order X 4674736413210574848 == some .eq) = false) (hc : floatToIntVal .f64 X .i64 = some n)
    (h : Calls Tryd.prog 73 #[.float .f64 x, .int .i64 mode] w fun r w' => r = .returned (.tuple #[.float .f64 X, .int .i64 Y, .int .i64 0]) ∧ Below w.heap.size w w') :
    Calls Tryd.prog 27 #[.float .f64 x, .int .i64 16, .int .i64 mode] w fun r w' => r = .returned (.tuple #[.int .i64 n, .int .i64 Y, .int .i64 0]) ∧ Below w.heap.size w w' := by
  have H := hid (wholeOf_core x X 16 mode Y w (by decide) h)
  have HI := hid (fun (w : World) => isnan_any X w hX)
  have hnd : decide (9218868437227405312 < X % 9223372036854775808) = false := decide_eq_false (by omega)
  rw [hnd] at HI
  have hfl := least16_is
  have hfn := least16_neg
  have hcr := toint_run X n hc
  clear h hc hX hn hnd
  go_enter Tryd.func27, Tryd.ntmps27
  go_wp2_with fail
  refine H.out.mono ?_
  rintro r w1 ⟨rfl, hb⟩
  go_wp2_with fail
  refine (HI.out _).mono ?_
  rintro r w2 ⟨rfl, rfl⟩
  go_wp2
  go_ret3
  exact ⟨rfl, hb⟩
set_option maxHeartbeats 400000 in
theorem Int16_high (x X : Nat) (mode Y : Int) (w : World) (hX : X < 18446744073709551616) (hn : X % 9223372036854775808 ≤ 9218868437227405312)
    (h1 : (FloatKind.f64.format.order X 13898108450065350656 == some .lt) = false) (h2 : (FloatKind.f64.format.order X 4674736413210574848 == some .gt || FloatKind.f64.format.order X 4674736413210574848 == some .eq) = true)
    (h : Calls Tryd.prog 73 #[.float .f64 x, .int .i64 mode] w fun r w' => r = .returned (.tuple #[.float .f64 X, .int .i64 Y, .int .i64 0]) ∧ Below w.heap.size w w') :
    Calls Tryd.prog 27 #[.float .f64 x, .int .i64 16, .int .i64 mode] w fun r w' => r = .returned (.tuple #[.int .i64 32767, .int .i64 8, .int .i64 0]) ∧ Below w.heap.size w w' := by
  have H := hid (wholeOf_core x X 16 mode Y w (by decide) h)
  have HI := hid (fun (w : World) => isnan_any X w hX)
  have hnd : decide (9218868437227405312 < X % 9223372036854775808) = false := decide_eq_false (by omega)
  rw [hnd] at HI
  have hfl := least16_is
  have hfn := least16_neg
  clear h hX hn hnd
  go_enter Tryd.func27, Tryd.ntmps27
  go_wp2_with fail
  refine H.out.mono ?_
  rintro r w1 ⟨rfl, hb⟩
  go_wp2_with fail
  refine (HI.out _).mono ?_
  rintro r w2 ⟨rfl, rfl⟩
  go_wp2
  go_ret3
  exact ⟨rfl, hb⟩
theorem least32_is : floatOfInt .f64 (-2147483648) = 13970166044103278592 := by decide +kernel
theorem least32_neg : Op.unary .neg (.float .f64 13970166044103278592) = pure (.float .f64 4746794007248502784) := rfl
set_option maxHeartbeats 400000 in
theorem Int32_in (x X : Nat) (mode Y n : Int) (w : World) (hX : X < 18446744073709551616) (hn : X % 9223372036854775808 ≤ 9218868437227405312)
    (h1 : (FloatKind.f64.format.order X 13970166044103278592 == some .lt) = false) (h2 : (FloatKind.f64.format.order X 4746794007248502784 == some .gt || FloatKind.f64.format.order X 4746794007248502784 == some .eq) = false) (hc : floatToIntVal .f64 X .i64 = some n)
    (h : Calls Tryd.prog 73 #[.float .f64 x, .int .i64 mode] w fun r w' => r = .returned (.tuple #[.float .f64 X, .int .i64 Y, .int .i64 0]) ∧ Below w.heap.size w w') :
    Calls Tryd.prog 27 #[.float .f64 x, .int .i64 32, .int .i64 mode] w fun r w' => r = .returned (.tuple #[.int .i64 n, .int .i64 Y, .int .i64 0]) ∧ Below w.heap.size w w' := by
  have H := hid (wholeOf_core x X 32 mode Y w (by decide) h)
  have HI := hid (fun (w : World) => isnan_any X w hX)
  have hnd : decide (9218868437227405312 < X % 9223372036854775808) = false := decide_eq_false (by omega)
  rw [hnd] at HI
  have hfl := least32_is
  have hfn := least32_neg
  have hcr := toint_run X n hc
  clear h hc hX hn hnd
  go_enter Tryd.func27, Tryd.ntmps27
  go_wp2_with fail
  refine H.out.mono ?_
  rintro r w1 ⟨rfl, hb⟩
  go_wp2_with fail
  refine (HI.out _).mono ?_
  rintro r w2 ⟨rfl, rfl⟩
  go_wp2
  go_ret3
  exact ⟨rfl, hb⟩
set_option maxHeartbeats 400000 in
theorem Int32_high (x X : Nat) (mode Y : Int) (w : World) (hX : X < 18446744073709551616) (hn : X % 9223372036854775808 ≤ 9218868437227405312)
    (h1 : (FloatKind.f64.format.order X 13970166044103278592 == some .lt) = false) (h2 : (FloatKind.f64.format.order X 4746794007248502784 == some .gt || FloatKind.f64.format.order X 4746794007248502784 == some .eq) = true)
    (h : Calls Tryd.prog 73 #[.float .f64 x, .int .i64 mode] w fun r w' => r = .returned (.tuple #[.float .f64 X, .int .i64 Y, .int .i64 0]) ∧ Below w.heap.size w w') :
    Calls Tryd.prog 27 #[.float .f64 x, .int .i64 32, .int .i64 mode] w fun r w' => r = .returned (.tuple #[.int .i64 2147483647, .int .i64 8, .int .i64 0]) ∧ Below w.heap.size w w' := by
  have H := hid (wholeOf_core x X 32 mode Y w (by decide) h)
  have HI := hid (fun (w : World) => isnan_any X w hX)
  have hnd : decide (9218868437227405312 < X % 9223372036854775808) = false := decide_eq_false (by omega)
  rw [hnd] at HI
  have hfl := least32_is
  have hfn := least32_neg
  clear h hX hn hnd
  go_enter Tryd.func27, Tryd.ntmps27
  go_wp2_with fail
  refine H.out.mono ?_
  rintro r w1 ⟨rfl, hb⟩
  go_wp2_with fail
  refine (HI.out _).mono ?_
  rintro r w2 ⟨rfl, rfl⟩
  go_wp2
  go_ret3
  exact ⟨rfl, hb⟩
end Go.Proofs.YtpgcelbgmpfliaaDoor
