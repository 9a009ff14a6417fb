
/- Proved: for all bits x and y, every power k, every width and every mode the law ConvertRises answers true: of what is not above, what Narrow, Whole, Scale, Int and Uint answer is not above, and just the four widths are taken. Its condition: the library's table of trailing zeros starts as the program's text lays it, to which the card ties it. -/
import Derived.Test.YtfeojdmffipinaaDoorRise4
import Derived.Test.YtfeojdmffipinaaDoorSeat
import Derived.Test.YtfeojdmffipinaaDoorTie
import Derived.Test.YtfeojdmffipinaaDoorCards
import Derived.SevenTiedAt
namespace Go.Proofs.YtfeojdmffipinaaDoor
open Go.ChangeShapes Go.WideShapes Go.ChangeAt Go.RowKit

set_option maxRecDepth 4000 in
set_option maxHeartbeats 1000000 in
theorem rises_out (x y : Nat) (k width mode : Int) (w : World) (h : (FloatKind.f64.format.order x x != some .eq) = true ∨ (FloatKind.f64.format.order x x != some .eq) = false ∧ (FloatKind.f64.format.order y y != some .eq) = true ∨ (FloatKind.f64.format.order x x != some .eq) = false ∧ (FloatKind.f64.format.order y y != some .eq) = false ∧ mode < 0 ∨ (FloatKind.f64.format.order x x != some .eq) = false ∧ (FloatKind.f64.format.order y y != some .eq) = false ∧ 4 < mode) (hT : Tab w) (hs : 1 < w.heap.size) :
    Calls Tryd.prog 8 #[.int .u64 x, .int .u64 y, .int .i64 k, .int .i64 width, .int .i64 mode] w fun r w' => r = .returned (.bool true) ∧ Below w.heap.size w w' := by
  rcases h with h1 | ⟨h1, h2⟩ | ⟨h1, h2, h3⟩ | ⟨h1, h2, h3⟩
  all_goals
    go_enter Tryd.func8, Tryd.ntmps8
    go_wp2_with fail
    refine (awake2_any _ hT hs).mono ?_
    rintro r w1 ⟨rfl, hb⟩
    go_wp2_with fail
    refine (f02_any x _).mono ?_
    rintro r w2 ⟨rfl, rfl⟩
    go_wp2_with fail
    refine (f02_any y _).mono ?_
    rintro r w2 ⟨rfl, rfl⟩
    go_wp2
    go_ret
    exact ⟨rfl, hb⟩
theorem leq64 (X Y : Nat) (hX : X < 18446744073709551616) (hY : Y < 18446744073709551616) (nX : X % 9223372036854775808 ≤ 9218868437227405312) (nY : Y % 9223372036854775808 ≤ 9218868437227405312) (h : sv X ≤ sv Y) : (FloatKind.f64.format.order X Y == some .lt || FloatKind.f64.format.order X Y == some .eq) = true := by
  rw [order_eq X Y hX hY nX nY]
  rcases Int.lt_or_eq_of_le h with h | h
  · rw [cmp_lt h]; rfl
  · rw [cmp_eq h]; rfl
theorem leq32 (X Y : Nat) (hX : X < 4294967296) (hY : Y < 4294967296) (nX : X % 2147483648 ≤ 2139095040) (nY : Y % 2147483648 ≤ 2139095040) (h : sv32 X ≤ sv32 Y) : (FloatKind.f32.format.order X Y == some .lt || FloatKind.f32.format.order X Y == some .eq) = true := by
  rw [order_eq32 X Y hX hY nX nY]
  rcases Int.lt_or_eq_of_le h with h | h
  · rw [cmp_lt h]; rfl
  · rw [cmp_eq h]; rfl
theorem sv_sign32 (neg : Bool) (R : Nat) (h : R < 2147483648) : sv32 (signN32 neg R) = if neg then -(nv32 R : Int) else (nv32 R : Int) := by
  obtain ⟨a1, a2, _⟩ := signN_mod32 neg R h
  unfold sv32
  rw [a1]
  cases neg
  · rw [if_neg (by simpa using a2)]; rfl
  · rw [if_pos (by simpa using a2)]; rfl
theorem gt_iff (x y : Nat) (hx : x < 18446744073709551616) (hy : y < 18446744073709551616) (nx : x % 9223372036854775808 ≤ 9218868437227405312) (ny : y % 9223372036854775808 ≤ 9218868437227405312) : (FloatKind.f64.format.order x y == some .gt) = decide (sv y < sv x) := by
  rw [order_eq x y hx hy nx ny]
  rcases Int.lt_trichotomy (sv x) (sv y) with h | h | h
  · rw [cmp_lt h, decide_eq_false (by omega)]; rfl
  · rw [cmp_eq h, decide_eq_false (by omega)]; rfl
  · rw [cmp_gt h, decide_eq_true h]; rfl
/-- All that the calls answer of two numbers, the first not above the second. -/
theorem rise_facts (A B : Nat) (k mode : Int) (hA : A < 18446744073709551616) (hB : B < 18446744073709551616) (nA : A % 9223372036854775808 ≤ 9218868437227405312) (nB : B % 9223372036854775808 ≤ 9218868437227405312) (h : sv A ≤ sv B) :
    (FloatKind.f32.format.order (narrowOf A mode) (narrowOf B mode) == some .lt || FloatKind.f32.format.order (narrowOf A mode) (narrowOf B mode) == some .eq) = true ∧
    sv (signN (decide (9223372036854775808 ≤ A)) (wR mode (decide (9223372036854775808 ≤ A)) (A % 9223372036854775808))) ≤ sv (signN (decide (9223372036854775808 ≤ B)) (wR mode (decide (9223372036854775808 ≤ B)) (B % 9223372036854775808))) ∧
    (FloatKind.f64.format.order (signN (decide (9223372036854775808 ≤ A)) (wR mode (decide (9223372036854775808 ≤ A)) (A % 9223372036854775808))) (signN (decide (9223372036854775808 ≤ B)) (wR mode (decide (9223372036854775808 ≤ B)) (B % 9223372036854775808))) == some .lt || FloatKind.f64.format.order (signN (decide (9223372036854775808 ≤ A)) (wR mode (decide (9223372036854775808 ≤ A)) (A % 9223372036854775808))) (signN (decide (9223372036854775808 ≤ B)) (wR mode (decide (9223372036854775808 ≤ B)) (B % 9223372036854775808))) == some .eq) = true ∧
    (FloatKind.f64.format.order (scaleOf A k mode) (scaleOf B k mode) == some .lt || FloatKind.f64.format.order (scaleOf A k mode) (scaleOf B k mode) == some .eq) = true := by
  have eA := sign_of A hA
  have eB := sign_of B hB
  rw [narrow_form A mode hA nA, narrow_form B mode hB nB, scale_form A k mode hA nA, scale_form B k mode hB nB]
  obtain ⟨s, hs⟩ : ∃ s, decide (9223372036854775808 ≤ A) = s := ⟨_, rfl⟩
  obtain ⟨t, ht⟩ : ∃ t, decide (9223372036854775808 ≤ B) = t := ⟨_, rfl⟩
  obtain ⟨r, hr⟩ : ∃ r, A % 9223372036854775808 = r := ⟨_, rfl⟩
  obtain ⟨q, hq⟩ : ∃ q, B % 9223372036854775808 = q := ⟨_, rfl⟩
  rw [hs, hr] at eA
  rw [ht, hq] at eB
  rw [hr] at nA
  rw [hq] at nB
  rw [hs, hr, ht, hq]
  have h' : (if s then -(nv r : Int) else (nv r : Int)) ≤ (if t then -(nv q : Int) else (nv q : Int)) := by
    rw [← sv_sign s r (by omega), ← sv_sign t q (by omega), ← eA, ← eB]; exact h
  have g1 := rise_sign (fun s r => nv32 (nR mode s r)) (fun s => by show nv32 (nR mode s 0) = 0; unfold nR; rw [if_neg (by decide), if_pos rfl, nv_zero32]) (fun s r1 r2 h1 h2 => nv_le32 (nR_mono mode s r1 r2 h1 h2)) s t r q nA nB h'
  have g2 := rise_sign (fun s r => nv (wR mode s r)) (fun s => by show nv (wR mode s 0) = 0; rw [wR_zero, nv_zero]) (fun s r1 r2 h1 h2 => nv_le (wR_mono mode s r1 r2 h1 h2)) s t r q nA nB h'
  have g3 := rise_sign (fun s r => nv (sR k mode s r)) (fun s => by show nv (sR k mode s 0) = 0; unfold sR; rw [if_pos (Or.inr rfl), nv_zero]) (fun s r1 r2 h1 h2 => nv_le (sR_mono k mode s r1 r2 h1 h2)) s t r q nA nB h'
  have l1 := nR_le mode s r
  have l2 := nR_le mode t q
  have l3 := wR_le mode s r nA
  have l4 := wR_le mode t q nB
  have l5 := sR_le k mode s r nA
  have l6 := sR_le k mode t q nB
  obtain ⟨a1, _, a3⟩ := signN_mod32 s (nR mode s r) (by omega)
  obtain ⟨b1, _, b3⟩ := signN_mod32 t (nR mode t q) (by omega)
  obtain ⟨c1, _, c3⟩ := signN_mod s (wR mode s r) (by omega)
  obtain ⟨d1, _, d3⟩ := signN_mod t (wR mode t q) (by omega)
  obtain ⟨e1, _, e3⟩ := signN_mod s (sR k mode s r) (by omega)
  obtain ⟨f1, _, f3⟩ := signN_mod t (sR k mode t q) (by omega)
  have w1 : sv (signN s (wR mode s r)) ≤ sv (signN t (wR mode t q)) := by rw [sv_sign s _ (by omega), sv_sign t _ (by omega)]; exact g2
  refine ⟨leq32 _ _ a3 b3 (by omega) (by omega) ?_, w1, leq64 _ _ c3 d3 (by omega) (by omega) w1, leq64 _ _ e3 f3 (by omega) (by omega) ?_⟩
  · rw [sv_sign32 s _ (by omega), sv_sign32 t _ (by omega)]; exact g1
  · rw [sv_sign s _ (by omega), sv_sign t _ (by omega)]; exact g3
theorem bad_width (width : Int) (h : ¬ (width = 8 ∨ width = 16 ∨ width = 32 ∨ width = 64)) : (width == 8) = false ∧ (width == 16) = false ∧ (width == 32) = false ∧ (width == 64) = false := by
  refine ⟨?_, ?_, ?_, ?_⟩ <;> (rw [beq_eq_false_iff_ne]; omega)
theorem rises_law (x y : Nat) (k width mode : Int) (w : World) (hx : x < 18446744073709551616) (hy : y < 18446744073709551616) (_hk : -9223372036854775808 ≤ k ∧ k ≤ 9223372036854775807) (_hw : -9223372036854775808 ≤ width ∧ width ≤ 9223372036854775807) (_hm : -9223372036854775808 ≤ mode ∧ mode ≤ 9223372036854775807) (hT : Tab w) (hs : 1 < w.heap.size) :
    Calls Tryd.prog 8 #[.int .u64 x, .int .u64 y, .int .i64 k, .int .i64 width, .int .i64 mode] w fun r w' => r = .returned (.bool true) ∧ Below w.heap.size w w' := by
  have hox := order_self x hx
  have hoy := order_self y hy
  by_cases nx : x % 9223372036854775808 ≤ 9218868437227405312
  case neg =>
    rw [decide_eq_true (by omega)] at hox
    exact rises_out x y k width mode w (Or.inl hox) hT hs
  rw [decide_eq_false (by omega)] at hox
  by_cases ny : y % 9223372036854775808 ≤ 9218868437227405312
  case neg =>
    rw [decide_eq_true (by omega)] at hoy
    exact rises_out x y k width mode w (Or.inr (Or.inl ⟨hox, hoy⟩)) hT hs
  rw [decide_eq_false (by omega)] at hoy
  by_cases hm : 0 ≤ mode ∧ mode ≤ 4
  case neg =>
    refine rises_out x y k width mode w (Or.inr (Or.inr ?_)) hT hs
    rcases (show mode < 0 ∨ 4 < mode by omega) with h | h
    · exact Or.inl ⟨hox, hoy, h⟩
    · exact Or.inr ⟨hox, hoy, h⟩
  have hg := gt_iff x y hx hy nx ny
  by_cases hc : sv y < sv x
  · rw [decide_eq_true hc] at hg
    obtain ⟨f1, f2, f3, f4⟩ := rise_facts y x k mode hy hx ny nx (by omega)
    by_cases h8 : width = 8
    · subst h8
      exact rises_swap8 x y _ _ _ _ _ _ k mode (clI (-128) 127 tI (sv (signN (decide (9223372036854775808 ≤ y)) (wR mode (decide (9223372036854775808 ≤ y)) (y % 9223372036854775808))))) (clI (-128) 127 tI (sv (signN (decide (9223372036854775808 ≤ x)) (wR mode (decide (9223372036854775808 ≤ x)) (x % 9223372036854775808))))) (clI 0 255 tI (sv (signN (decide (9223372036854775808 ≤ y)) (wR mode (decide (9223372036854775808 ≤ y)) (y % 9223372036854775808))))) (clI 0 255 tI (sv (signN (decide (9223372036854775808 ≤ x)) (wR mode (decide (9223372036854775808 ≤ x)) (x % 9223372036854775808))))) w hm.1 hm.2 hT hs hox hoy hg f1 f3 f4 (clI_mono _ _ _ _ _ tI_pos f2 (by decide)) (clI_mono _ _ _ _ _ tI_pos f2 (by decide))
        (fun w hT hs => ⟨_, Narrow_any y mode w hy hm.1 hm.2 hT hs⟩)
        (fun w hT hs => Whole_any y mode w hy ny hm.1 hm.2 hT hs)
        (fun w hT hs => ⟨_, Scale_any y k mode w hy hm.1 hm.2 hT hs⟩)
        (fun w hT hs => Int8_any y mode w hy ny hm.1 hm.2 hT hs)
        (fun w hT hs => Uint8_any y mode w hy ny hm.1 hm.2 hT hs)
        (fun w hT hs => ⟨_, Narrow_any x mode w hx hm.1 hm.2 hT hs⟩)
        (fun w hT hs => Whole_any x mode w hx nx hm.1 hm.2 hT hs)
        (fun w hT hs => ⟨_, Scale_any x k mode w hx hm.1 hm.2 hT hs⟩)
        (fun w hT hs => Int8_any x mode w hx nx hm.1 hm.2 hT hs)
        (fun w hT hs => Uint8_any x mode w hx nx hm.1 hm.2 hT hs)
    by_cases h16 : width = 16
    · subst h16
      exact rises_swap16 x y _ _ _ _ _ _ k mode (clI (-32768) 32767 tI (sv (signN (decide (9223372036854775808 ≤ y)) (wR mode (decide (9223372036854775808 ≤ y)) (y % 9223372036854775808))))) (clI (-32768) 32767 tI (sv (signN (decide (9223372036854775808 ≤ x)) (wR mode (decide (9223372036854775808 ≤ x)) (x % 9223372036854775808))))) (clI 0 65535 tI (sv (signN (decide (9223372036854775808 ≤ y)) (wR mode (decide (9223372036854775808 ≤ y)) (y % 9223372036854775808))))) (clI 0 65535 tI (sv (signN (decide (9223372036854775808 ≤ x)) (wR mode (decide (9223372036854775808 ≤ x)) (x % 9223372036854775808))))) w hm.1 hm.2 hT hs hox hoy hg f1 f3 f4 (clI_mono _ _ _ _ _ tI_pos f2 (by decide)) (clI_mono _ _ _ _ _ tI_pos f2 (by decide))
        (fun w hT hs => ⟨_, Narrow_any y mode w hy hm.1 hm.2 hT hs⟩)
        (fun w hT hs => Whole_any y mode w hy ny hm.1 hm.2 hT hs)
        (fun w hT hs => ⟨_, Scale_any y k mode w hy hm.1 hm.2 hT hs⟩)
        (fun w hT hs => Int16_any y mode w hy ny hm.1 hm.2 hT hs)
        (fun w hT hs => Uint16_any y mode w hy ny hm.1 hm.2 hT hs)
        (fun w hT hs => ⟨_, Narrow_any x mode w hx hm.1 hm.2 hT hs⟩)
        (fun w hT hs => Whole_any x mode w hx nx hm.1 hm.2 hT hs)
        (fun w hT hs => ⟨_, Scale_any x k mode w hx hm.1 hm.2 hT hs⟩)
        (fun w hT hs => Int16_any x mode w hx nx hm.1 hm.2 hT hs)
        (fun w hT hs => Uint16_any x mode w hx nx hm.1 hm.2 hT hs)
    by_cases h32 : width = 32
    · subst h32
      exact rises_swap32 x y _ _ _ _ _ _ k mode (clI (-2147483648) 2147483647 tI (sv (signN (decide (9223372036854775808 ≤ y)) (wR mode (decide (9223372036854775808 ≤ y)) (y % 9223372036854775808))))) (clI (-2147483648) 2147483647 tI (sv (signN (decide (9223372036854775808 ≤ x)) (wR mode (decide (9223372036854775808 ≤ x)) (x % 9223372036854775808))))) (clI 0 4294967295 tI (sv (signN (decide (9223372036854775808 ≤ y)) (wR mode (decide (9223372036854775808 ≤ y)) (y % 9223372036854775808))))) (clI 0 4294967295 tI (sv (signN (decide (9223372036854775808 ≤ x)) (wR mode (decide (9223372036854775808 ≤ x)) (x % 9223372036854775808))))) w hm.1 hm.2 hT hs hox hoy hg f1 f3 f4 (clI_mono _ _ _ _ _ tI_pos f2 (by decide)) (clI_mono _ _ _ _ _ tI_pos f2 (by decide))
        (fun w hT hs => ⟨_, Narrow_any y mode w hy hm.1 hm.2 hT hs⟩)
        (fun w hT hs => Whole_any y mode w hy ny hm.1 hm.2 hT hs)
        (fun w hT hs => ⟨_, Scale_any y k mode w hy hm.1 hm.2 hT hs⟩)
        (fun w hT hs => Int32_any y mode w hy ny hm.1 hm.2 hT hs)
        (fun w hT hs => Uint32_any y mode w hy ny hm.1 hm.2 hT hs)
        (fun w hT hs => ⟨_, Narrow_any x mode w hx hm.1 hm.2 hT hs⟩)
        (fun w hT hs => Whole_any x mode w hx nx hm.1 hm.2 hT hs)
        (fun w hT hs => ⟨_, Scale_any x k mode w hx hm.1 hm.2 hT hs⟩)
        (fun w hT hs => Int32_any x mode w hx nx hm.1 hm.2 hT hs)
        (fun w hT hs => Uint32_any x mode w hx nx hm.1 hm.2 hT hs)
    by_cases h64 : width = 64
    · subst h64
      exact rises_swap64 x y _ _ _ _ _ _ k mode (clI (-9223372036854775808) 9223372036854775807 tI (sv (signN (decide (9223372036854775808 ≤ y)) (wR mode (decide (9223372036854775808 ≤ y)) (y % 9223372036854775808))))) (clI (-9223372036854775808) 9223372036854775807 tI (sv (signN (decide (9223372036854775808 ≤ x)) (wR mode (decide (9223372036854775808 ≤ x)) (x % 9223372036854775808))))) (clI 0 18446744073709551615 tI (sv (signN (decide (9223372036854775808 ≤ y)) (wR mode (decide (9223372036854775808 ≤ y)) (y % 9223372036854775808))))) (clI 0 18446744073709551615 tI (sv (signN (decide (9223372036854775808 ≤ x)) (wR mode (decide (9223372036854775808 ≤ x)) (x % 9223372036854775808))))) w hm.1 hm.2 hT hs hox hoy hg f1 f3 f4 (clI_mono _ _ _ _ _ tI_pos f2 (by decide)) (clI_mono _ _ _ _ _ tI_pos f2 (by decide))
        (fun w hT hs => ⟨_, Narrow_any y mode w hy hm.1 hm.2 hT hs⟩)
        (fun w hT hs => Whole_any y mode w hy ny hm.1 hm.2 hT hs)
        (fun w hT hs => ⟨_, Scale_any y k mode w hy hm.1 hm.2 hT hs⟩)
        (fun w hT hs => Int64_any y mode w hy ny hm.1 hm.2 hT hs)
        (fun w hT hs => Uint64_any y mode w hy ny hm.1 hm.2 hT hs)
        (fun w hT hs => ⟨_, Narrow_any x mode w hx hm.1 hm.2 hT hs⟩)
        (fun w hT hs => Whole_any x mode w hx nx hm.1 hm.2 hT hs)
        (fun w hT hs => ⟨_, Scale_any x k mode w hx hm.1 hm.2 hT hs⟩)
        (fun w hT hs => Int64_any x mode w hx nx hm.1 hm.2 hT hs)
        (fun w hT hs => Uint64_any x mode w hx nx hm.1 hm.2 hT hs)
    have hb : ¬ (width = 8 ∨ width = 16 ∨ width = 32 ∨ width = 64) := by omega
    obtain ⟨b1, b2, b3, b4⟩ := bad_width width hb
    exact rises_swapBad x y _ _ _ _ _ _ k mode width 0 0 0 0 w hm.1 hm.2 hT hs hox hoy hg f1 f3 f4 (Int.le_refl _) (Int.le_refl _) b1 b2 b3 b4
      (fun w hT hs => ⟨_, Narrow_any y mode w hy hm.1 hm.2 hT hs⟩)
      (fun w hT hs => Whole_any y mode w hy ny hm.1 hm.2 hT hs)
      (fun w hT hs => ⟨_, Scale_any y k mode w hy hm.1 hm.2 hT hs⟩)
      (fun w hT hs => (Whole_any y mode w hy ny hm.1 hm.2 hT hs).elim fun Y hW => ⟨_, Int_bad y _ width mode Y w hb hW⟩)
      (fun w hT hs => (Whole_any y mode w hy ny hm.1 hm.2 hT hs).elim fun Y hW => ⟨_, Uint_bad y _ width mode Y w hb hW⟩)
      (fun w hT hs => ⟨_, Narrow_any x mode w hx hm.1 hm.2 hT hs⟩)
      (fun w hT hs => Whole_any x mode w hx nx hm.1 hm.2 hT hs)
      (fun w hT hs => ⟨_, Scale_any x k mode w hx hm.1 hm.2 hT hs⟩)
      (fun w hT hs => (Whole_any x mode w hx nx hm.1 hm.2 hT hs).elim fun Y hW => ⟨_, Int_bad x _ width mode Y w hb hW⟩)
      (fun w hT hs => (Whole_any x mode w hx nx hm.1 hm.2 hT hs).elim fun Y hW => ⟨_, Uint_bad x _ width mode Y w hb hW⟩)
  · rw [decide_eq_false hc] at hg
    obtain ⟨f1, f2, f3, f4⟩ := rise_facts x y k mode hx hy nx ny (by omega)
    by_cases h8 : width = 8
    · subst h8
      exact rises_keep8 x y _ _ _ _ _ _ k mode (clI (-128) 127 tI (sv (signN (decide (9223372036854775808 ≤ x)) (wR mode (decide (9223372036854775808 ≤ x)) (x % 9223372036854775808))))) (clI (-128) 127 tI (sv (signN (decide (9223372036854775808 ≤ y)) (wR mode (decide (9223372036854775808 ≤ y)) (y % 9223372036854775808))))) (clI 0 255 tI (sv (signN (decide (9223372036854775808 ≤ x)) (wR mode (decide (9223372036854775808 ≤ x)) (x % 9223372036854775808))))) (clI 0 255 tI (sv (signN (decide (9223372036854775808 ≤ y)) (wR mode (decide (9223372036854775808 ≤ y)) (y % 9223372036854775808))))) w hm.1 hm.2 hT hs hox hoy hg f1 f3 f4 (clI_mono _ _ _ _ _ tI_pos f2 (by decide)) (clI_mono _ _ _ _ _ tI_pos f2 (by decide))
        (fun w hT hs => ⟨_, Narrow_any x mode w hx hm.1 hm.2 hT hs⟩)
        (fun w hT hs => Whole_any x mode w hx nx hm.1 hm.2 hT hs)
        (fun w hT hs => ⟨_, Scale_any x k mode w hx hm.1 hm.2 hT hs⟩)
        (fun w hT hs => Int8_any x mode w hx nx hm.1 hm.2 hT hs)
        (fun w hT hs => Uint8_any x mode w hx nx hm.1 hm.2 hT hs)
        (fun w hT hs => ⟨_, Narrow_any y mode w hy hm.1 hm.2 hT hs⟩)
        (fun w hT hs => Whole_any y mode w hy ny hm.1 hm.2 hT hs)
        (fun w hT hs => ⟨_, Scale_any y k mode w hy hm.1 hm.2 hT hs⟩)
        (fun w hT hs => Int8_any y mode w hy ny hm.1 hm.2 hT hs)
        (fun w hT hs => Uint8_any y mode w hy ny hm.1 hm.2 hT hs)
    by_cases h16 : width = 16
    · subst h16
      exact rises_keep16 x y _ _ _ _ _ _ k mode (clI (-32768) 32767 tI (sv (signN (decide (9223372036854775808 ≤ x)) (wR mode (decide (9223372036854775808 ≤ x)) (x % 9223372036854775808))))) (clI (-32768) 32767 tI (sv (signN (decide (9223372036854775808 ≤ y)) (wR mode (decide (9223372036854775808 ≤ y)) (y % 9223372036854775808))))) (clI 0 65535 tI (sv (signN (decide (9223372036854775808 ≤ x)) (wR mode (decide (9223372036854775808 ≤ x)) (x % 9223372036854775808))))) (clI 0 65535 tI (sv (signN (decide (9223372036854775808 ≤ y)) (wR mode (decide (9223372036854775808 ≤ y)) (y % 9223372036854775808))))) w hm.1 hm.2 hT hs hox hoy hg f1 f3 f4 (clI_mono _ _ _ _ _ tI_pos f2 (by decide)) (clI_mono _ _ _ _ _ tI_pos f2 (by decide))
        (fun w hT hs => ⟨_, Narrow_any x mode w hx hm.1 hm.2 hT hs⟩)
        (fun w hT hs => Whole_any x mode w hx nx hm.1 hm.2 hT hs)
        (fun w hT hs => ⟨_, Scale_any x k mode w hx hm.1 hm.2 hT hs⟩)
        (fun w hT hs => Int16_any x mode w hx nx hm.1 hm.2 hT hs)
        (fun w hT hs => Uint16_any x mode w hx nx hm.1 hm.2 hT hs)
        (fun w hT hs => ⟨_, Narrow_any y mode w hy hm.1 hm.2 hT hs⟩)
        (fun w hT hs => Whole_any y mode w hy ny hm.1 hm.2 hT hs)
        (fun w hT hs => ⟨_, Scale_any y k mode w hy hm.1 hm.2 hT hs⟩)
        (fun w hT hs => Int16_any y mode w hy ny hm.1 hm.2 hT hs)
        (fun w hT hs => Uint16_any y mode w hy ny hm.1 hm.2 hT hs)
    by_cases h32 : width = 32
    · subst h32
      exact rises_keep32 x y _ _ _ _ _ _ k mode (clI (-2147483648) 2147483647 tI (sv (signN (decide (9223372036854775808 ≤ x)) (wR mode (decide (9223372036854775808 ≤ x)) (x % 9223372036854775808))))) (clI (-2147483648) 2147483647 tI (sv (signN (decide (9223372036854775808 ≤ y)) (wR mode (decide (9223372036854775808 ≤ y)) (y % 9223372036854775808))))) (clI 0 4294967295 tI (sv (signN (decide (9223372036854775808 ≤ x)) (wR mode (decide (9223372036854775808 ≤ x)) (x % 9223372036854775808))))) (clI 0 4294967295 tI (sv (signN (decide (9223372036854775808 ≤ y)) (wR mode (decide (9223372036854775808 ≤ y)) (y % 9223372036854775808))))) w hm.1 hm.2 hT hs hox hoy hg f1 f3 f4 (clI_mono _ _ _ _ _ tI_pos f2 (by decide)) (clI_mono _ _ _ _ _ tI_pos f2 (by decide))
        (fun w hT hs => ⟨_, Narrow_any x mode w hx hm.1 hm.2 hT hs⟩)
        (fun w hT hs => Whole_any x mode w hx nx hm.1 hm.2 hT hs)
        (fun w hT hs => ⟨_, Scale_any x k mode w hx hm.1 hm.2 hT hs⟩)
        (fun w hT hs => Int32_any x mode w hx nx hm.1 hm.2 hT hs)
        (fun w hT hs => Uint32_any x mode w hx nx hm.1 hm.2 hT hs)
        (fun w hT hs => ⟨_, Narrow_any y mode w hy hm.1 hm.2 hT hs⟩)
        (fun w hT hs => Whole_any y mode w hy ny hm.1 hm.2 hT hs)
        (fun w hT hs => ⟨_, Scale_any y k mode w hy hm.1 hm.2 hT hs⟩)
        (fun w hT hs => Int32_any y mode w hy ny hm.1 hm.2 hT hs)
        (fun w hT hs => Uint32_any y mode w hy ny hm.1 hm.2 hT hs)
    by_cases h64 : width = 64
    · subst h64
      exact rises_keep64 x y _ _ _ _ _ _ k mode (clI (-9223372036854775808) 9223372036854775807 tI (sv (signN (decide (9223372036854775808 ≤ x)) (wR mode (decide (9223372036854775808 ≤ x)) (x % 9223372036854775808))))) (clI (-9223372036854775808) 9223372036854775807 tI (sv (signN (decide (9223372036854775808 ≤ y)) (wR mode (decide (9223372036854775808 ≤ y)) (y % 9223372036854775808))))) (clI 0 18446744073709551615 tI (sv (signN (decide (9223372036854775808 ≤ x)) (wR mode (decide (9223372036854775808 ≤ x)) (x % 9223372036854775808))))) (clI 0 18446744073709551615 tI (sv (signN (decide (9223372036854775808 ≤ y)) (wR mode (decide (9223372036854775808 ≤ y)) (y % 9223372036854775808))))) w hm.1 hm.2 hT hs hox hoy hg f1 f3 f4 (clI_mono _ _ _ _ _ tI_pos f2 (by decide)) (clI_mono _ _ _ _ _ tI_pos f2 (by decide))
        (fun w hT hs => ⟨_, Narrow_any x mode w hx hm.1 hm.2 hT hs⟩)
        (fun w hT hs => Whole_any x mode w hx nx hm.1 hm.2 hT hs)
        (fun w hT hs => ⟨_, Scale_any x k mode w hx hm.1 hm.2 hT hs⟩)
        (fun w hT hs => Int64_any x mode w hx nx hm.1 hm.2 hT hs)
        (fun w hT hs => Uint64_any x mode w hx nx hm.1 hm.2 hT hs)
        (fun w hT hs => ⟨_, Narrow_any y mode w hy hm.1 hm.2 hT hs⟩)
        (fun w hT hs => Whole_any y mode w hy ny hm.1 hm.2 hT hs)
        (fun w hT hs => ⟨_, Scale_any y k mode w hy hm.1 hm.2 hT hs⟩)
        (fun w hT hs => Int64_any y mode w hy ny hm.1 hm.2 hT hs)
        (fun w hT hs => Uint64_any y mode w hy ny hm.1 hm.2 hT hs)
    have hb : ¬ (width = 8 ∨ width = 16 ∨ width = 32 ∨ width = 64) := by omega
    obtain ⟨b1, b2, b3, b4⟩ := bad_width width hb
    exact rises_keepBad x y _ _ _ _ _ _ k mode width 0 0 0 0 w hm.1 hm.2 hT hs hox hoy hg f1 f3 f4 (Int.le_refl _) (Int.le_refl _) b1 b2 b3 b4
      (fun w hT hs => ⟨_, Narrow_any x mode w hx hm.1 hm.2 hT hs⟩)
      (fun w hT hs => Whole_any x mode w hx nx hm.1 hm.2 hT hs)
      (fun w hT hs => ⟨_, Scale_any x k mode w hx hm.1 hm.2 hT hs⟩)
      (fun w hT hs => (Whole_any x mode w hx nx hm.1 hm.2 hT hs).elim fun Y hW => ⟨_, Int_bad x _ width mode Y w hb hW⟩)
      (fun w hT hs => (Whole_any x mode w hx nx hm.1 hm.2 hT hs).elim fun Y hW => ⟨_, Uint_bad x _ width mode Y w hb hW⟩)
      (fun w hT hs => ⟨_, Narrow_any y mode w hy hm.1 hm.2 hT hs⟩)
      (fun w hT hs => Whole_any y mode w hy ny hm.1 hm.2 hT hs)
      (fun w hT hs => ⟨_, Scale_any y k mode w hy hm.1 hm.2 hT hs⟩)
      (fun w hT hs => (Whole_any y mode w hy ny hm.1 hm.2 hT hs).elim fun Y hW => ⟨_, Int_bad y _ width mode Y w hb hW⟩)
      (fun w hT hs => (Whole_any y mode w hy ny hm.1 hm.2 hT hs).elim fun Y hW => ⟨_, Uint_bad y _ width mode Y w hb hW⟩)

set_option maxRecDepth 100000 in
theorem convertRises_lifted (os : Os) (started : os.Started) (H : Type) (enc : TypeId × Value → H) :
    ReturnsInHanded {} Tryd.checked os 8 .any (fun w args => (Rows.convertRisesSpec.pre enc Tryd.prog Tryd.f8 [] false w args ∧ laidMetH Tryd.prog [("math/bits.deBruijn64tab", Rows.laid_math_bits_deBruijn64tab)] w) ∧ sizedMet enc Tryd.prog Tryd.f8 (OpenSpec.ofChange Rows.convertRisesSpec) false w args)
      (Rows.convertRisesSpec.post enc Tryd.prog Tryd.f8 false true false false) := by
  refine returnsInHanded_of_change_and (C := Tryd.checked) (X := fun w _ => laidMetH Tryd.prog [("math/bits.deBruijn64tab", Rows.laid_math_bits_deBruijn64tab)] w) (fun _ _ _ hh h => h.of_heap hh) own started (by kernel_rfl) Tryd.func8
    (ChangeSpec.witness_shaped (enc := enc) (C := Tryd.checked) (os := os) (X := fun w _ => laidMetH Tryd.prog [("math/bits.deBruijn64tab", Rows.laid_math_bits_deBruijn64tab)] w) false (World.doorLaid Tryd.prog 400 os) #[.int .u64 0, .int .u64 0, .int .i64 0, .int .i64 0, .int .i64 0] 8 rfl (World.shaped_of_RefB (by kernel_rfl) (by kernel_rfl)) (by kernel_rfl) (by kernel_rfl) (by kernel_rfl) (door_met os _)) ?_
  intro W base args ds gs before hval0 hW _ _ hL _
  have hval : ∀ (j : Nat) t v, Tryd.f8.params[j]? = some t → args[j]? = some v → Value.okWide Tryd.prog W .any base t v := hval0
  have hW' := hW
  obtain ⟨p, q, hA0, hV, rfl, hfz, hnd⟩ := hW
  have hA : DataW.TrodAll enc Tryd.prog W 0 (fun _ => true) true Tryd.f8.params.toList args.toList ds p := hA0
  rw [Tryd.params8] at hA hval
  obtain ⟨v0, vs0, d0, ds0, p0, q0, hargs, rfl, rfl, h0, r0⟩ := trodAll_cons hA
  obtain ⟨v1, vs1, d1, ds1, p1, q1, rfl, rfl, rfl, h1, r1⟩ := trodAll_cons r0
  obtain ⟨v2, vs2, d2, ds2, p2, q2, rfl, rfl, rfl, h2, r2⟩ := trodAll_cons r1
  obtain ⟨v3, vs3, d3, ds3, p3, q3, rfl, rfl, rfl, h3, r3⟩ := trodAll_cons r2
  obtain ⟨v4, vs4, d4, ds4, p4, q4, rfl, rfl, rfl, h4, r4⟩ := trodAll_cons r3
  obtain ⟨rfl, rfl, rfl⟩ := trodAll_nil r4
  obtain rfl : args = #[v0, v1, v2, v3, v4] := by cases args; simp_all
  obtain ⟨rfl, rfl⟩ := trodVars_none hV
  obtain ⟨a0, rfl, rfl, rfl, w0⟩ := open_int Tryd.underlying22 (hval 0 22 v0 rfl rfl) h0
  obtain ⟨n0, rfl⟩ := Int.eq_ofNat_of_zero_le (bounds_u64 w0).1
  have l0 : n0 < 18446744073709551616 := by have := (bounds_u64 w0).2; omega
  obtain ⟨a1, rfl, rfl, rfl, w1⟩ := open_int Tryd.underlying22 (hval 1 22 v1 rfl rfl) h1
  obtain ⟨n1, rfl⟩ := Int.eq_ofNat_of_zero_le (bounds_u64 w1).1
  have l1 : n1 < 18446744073709551616 := by have := (bounds_u64 w1).2; omega
  obtain ⟨a2, rfl, rfl, rfl, w2⟩ := open_int Tryd.underlying3 (hval 2 3 v2 rfl rfl) h2
  obtain ⟨a3, rfl, rfl, rfl, w3⟩ := open_int Tryd.underlying3 (hval 3 3 v3 rfl rfl) h3
  obtain ⟨a4, rfl, rfl, rfl, w4⟩ := open_int Tryd.underlying3 (hval 4 3 v4 rfl rfl) h4
  obtain ⟨hT, hs⟩ := tab_of_laid hL
  clear hA0 hval0
  simp only [List.append_nil] at hW'
  refine (rises_law n0 n1 a2 a3 a4 W l0 l1 (bounds_i64 w2) (bounds_i64 w3) (bounds_i64 w4) hT hs).mono fun e W' ⟨he, bel⟩ => ?_
  subst he
  exact ⟨_, rfl, _, _, _, [], [], [], hW', trodAll_mk1 (shut_bool Tryd.underlying4 _), (trodAll_cons_mk (shut_int Tryd.underlying22 w0) (trodAll_cons_mk (shut_int Tryd.underlying22 w1) (trodAll_cons_mk (shut_int Tryd.underlying3 w2) (trodAll_cons_mk (shut_int Tryd.underlying3 w3) (trodAll_cons_mk (shut_int Tryd.underlying3 w4) trodAll_mk0))))), rfl, bel.frame _, fun h => by cases h⟩

theorem convertRises_row : Rows.ConvertRisesSaid :=
  OpenClaim.holds_of_wide 8 Tryd.f8 rfl rfl rfl rfl rfl rfl rfl ⟨rfl, rfl, rfl, rfl, rfl⟩ rfl rfl rfl rfl rfl (by kernel_rfl) Tryd.func8 (by kernel_rfl)
    (of_decide_eq_true (by kernel_rfl)) (by unfold Func.isWrapper; first | (rw [if_pos (by decide +kernel)]; kernel_rfl) | (rw [if_neg (by decide +kernel)]; exact ⟨rfl, rfl⟩))
    (fun os started H enc _ => convertRises_lifted os started H enc)

theorem convertRises_card : Rows.ConvertRisesCardSaid :=
  Claim7.holds_tied_plain_at .later [] [.data] true (true, "a32aba356635e8a6eb3eb2178527088e6073dfbbae84cf0375af625bc9adbcca") false
    convertRises_row (fun _ h => by cases h) (by kernel_rfl) (fun _ h => by cases h) convertRises_row_tie rfl ⟨rfl, rfl⟩ (by kernel_rfl) rfl
    (fun f fn hf hfn => by
      obtain rfl : f = 8 := Option.some.inj ((show Tryd.prog.funcNamed "binnacle/binnaclelaw02.ConvertRises" = some 8 by kernel_rfl).symm.trans hf) |>.symm
      obtain rfl : fn = Tryd.f8 := (Option.some.inj (Tryd.func8.symm.trans hfn)).symm
      exact ⟨by kernel_rfl, fun j t ht => by
        rw [Tryd.params8] at ht
        have hm : t ∈ [22, 22, 3, 3, 3] := by simpa using Array.mem_of_getElem? ht
        have hall : ([22, 22, 3, 3, 3].all fun u => !Tryd.prog.wantsStandIn u) = true := by kernel_rfl
        exact (show Tryd.prog.wantsStandIn t = false by simpa using List.all_eq_true.1 hall t hm)⟩)
    (by kernel_rfl)
#print axioms convertRises_card
end Go.Proofs.YtfeojdmffipinaaDoor
