
/- Contracts of interval's calls at a frame; three boxes. -/
import Derived.Test.YtilffgmekeeohaaDoorP6
import Derived.Test.YtilffgmekeeohaaDoorP19
import Derived.Test.YtilffgmekeeohaaDoorP17
namespace Go.Proofs.YtilffgmekeeohaaDoor
open Go.RowKit Go.IntWalk

/-- The cells of three blocks of two. -/
def C3 (W : World) (n m k : Nat) (a b c d e f : Value) : Prop := (W.cell? ⟨n, 0, none⟩ = some a ∧ W.cell? ⟨n, 1, none⟩ = some b) ∧ (W.cell? ⟨m, 0, none⟩ = some c ∧ W.cell? ⟨m, 1, none⟩ = some d) ∧ (W.cell? ⟨k, 0, none⟩ = some e ∧ W.cell? ⟨k, 1, none⟩ = some f)
theorem c3_of {W W0 : World} {n m k : Nat} {a b c d e f : Value} {T : TypeId} (g1 : W0.heap[n]? = some (.cells #[a, b] T)) (g2 : W0.heap[m]? = some (.cells #[c, d] T)) (g3 : W0.heap[k]? = some (.cells #[e, f] T)) (hW : Below W0.heap.size W0 W) : C3 W n m k a b c d e f := by
  have t1 := icells_of ((hW.block _ (Array.getElem?_eq_some_iff.1 g1).1).trans g1)
  have t2 := icells_of ((hW.block _ (Array.getElem?_eq_some_iff.1 g2).1).trans g2)
  have t3 := icells_of ((hW.block _ (Array.getElem?_eq_some_iff.1 g3).1).trans g3)
  exact ⟨⟨t1.1, t1.2.1⟩, ⟨t2.1, t2.2.1⟩, t3.1, t3.2.1⟩
/-- Three boxes' cells. -/
def Box3 (V : World) (p q r : Nat) (a b c d e f : Nat) : Prop := C3 V p q r (.float .f64 a) (.float .f64 b) (.float .f64 c) (.float .f64 d) (.float .f64 e) (.float .f64 f) ∧ p < V.heap.size ∧ q < V.heap.size ∧ r < V.heap.size
theorem st2 {B : Nat} {w W : World} (h : Hid (Below B w W)) (P : Nat) (hP : B ≤ P) (x y : Value) : Hid (Below B w ((W.setCell ⟨P, 0, none⟩ x).setCell ⟨P, 1, none⟩ y)) := Below.setCell (Below.setCell h.out hP x) hP y
theorem al2 {B : Nat} {w W : World} (h : Hid (Below B w W)) (hB : Hid (B ≤ w.heap.size)) (o : Obj) : Hid (Below B w (W.alloc o)) := h.out.alloc (Nat.le_trans hB.out h.out.size) o
theorem dr2 {B : Nat} {w W : World} (h : Hid (Below B w W)) : Hid (Below B w W.drew) := h.out.drew
/-- Equal ends, kept as they are. -/
def EqN (x y z u : Nat) : Prop := x = z ∧ y = u ∧ Nrm z u
theorem eqn {x y z u : Nat} (h : x = z ∧ y = u) (n : Nrm z u) : EqN x y z u := ⟨h.1, h.2, n⟩
/-- What a call leaves: blocks as they were, the frame. -/
def Lft (V W w' : World) : Prop := ((∀ b o, b < W.heap.size → w'.cell? ⟨b, o, none⟩ = W.cell? ⟨b, o, none⟩) ∧ (∀ b o, b < W.heap.size → w'.frozen? ⟨b, o, none⟩ = W.frozen? ⟨b, o, none⟩)) ∧ Hid (Below V.heap.size V w') ∧ (∀ n, n < W.heap.size → n < w'.heap.size) ∧ V.heap.size ≤ w'.heap.size
theorem lft {V W w' : World} (hW : Hid (Below V.heap.size V W)) (h : Below W.heap.size W w') : Lft V W w' := ⟨bcell h, hW.out.trans (h.mono hW.out.size), fun _ hn => Nat.lt_of_lt_of_le hn h.size, Nat.le_trans hW.out.size h.size⟩
theorem meet_fr (V : World) (x y z u : Nat) (W : World) (h1 : E2 x y) (h2 : E2 z u) (hW : Hid (Below V.heap.size V W)) : Calls Tryd.prog 42 #[.agg #[.float .f64 x, .float .f64 y], .agg #[.float .f64 z, .float .f64 u]] W fun r w' => r = .returned (.agg #[.float .f64 (meLo x y z u), .float .f64 (meHi x y z u)]) ∧ E2 (meLo x y z u) (meHi x y z u) ∧ Lft V W w' := by
  refine (Meet_any x y z u W h1.1 h1.2 h2.1 h2.2).mono ?_
  rintro r w' ⟨rfl, h⟩
  exact ⟨rfl, nrm_e2 (me_nrm h1 h2), lft hW h⟩
theorem empty_fr (V W : World) (hW : Hid (Below V.heap.size V W)) : Calls Tryd.prog 36 #[] W fun r w' => r = .returned (.agg #[.float .f64 9218868437227405312, .float .f64 18442240474082181120]) ∧ Lft V W w' := by
  refine (Empty_any W).mono ?_
  rintro r w' ⟨rfl, h⟩
  exact ⟨rfl, lft hW h⟩
/-- In's answer. -/
def inB (x y z u : Nat) : Bool := decide (sv (btLo z u) ≤ sv (btLo x y)) && decide (sv (btHi x y) ≤ sv (btHi z u))
theorem is_fr (V : World) (x y : Nat) (W : World) (hW : Hid (Below V.heap.size V W)) : Calls Tryd.prog 9 #[.agg #[.float .f64 x, .float .f64 y]] W fun r w' => r = .returned (.bool (fullB x y || noneB x y)) ∧ Lft V W w' := by
  refine (Is_any x y W).mono ?_
  rintro r w' ⟨rfl, h⟩
  exact ⟨rfl, lft hW h⟩
theorem absorb_full {a b c d : Nat} (h1 : E2 a b) (h2 : E2 c d) (h : fullB a b = true) : FloatKind.f64.format.order (meLo a b (huL a b c d) (huH a b c d)) a = some .eq ∧ FloatKind.f64.format.order (meHi a b (huL a b c d) (huH a b c d)) b = some .eq := by
  obtain ⟨e1, e2⟩ := me_absorb h1 h2
  obtain ⟨n1, n2⟩ := full_nums h
  have f1 : btLo a b = plusOf a := if_pos h
  have f2 : btHi a b = plusOf b := if_pos h
  have k1 := cn_plus h1.1 n1
  have k2 := cn_plus h1.2 n2
  rw [e1, e2, f1, f2, order_eq _ _ k1.1 h1.1 k1.2.1 n1, order_eq _ _ k2.1 h1.2 k2.2.1 n2, plus_sv a h1.1 n1, plus_sv b h1.2 n2]
  exact ⟨by rw [cmp_eq rfl], by rw [cmp_eq rfl]⟩
theorem nrm_none : Nrm 9218868437227405312 18442240474082181120 := ⟨cn_pi, cn_ni, Or.inr ⟨rfl, pi_neg⟩⟩
theorem absorb_none {a b c d : Nat} (h1 : E2 a b) (h2 : E2 c d) (h : fullB a b = false) : EqN (meLo a b (huL a b c d) (huH a b c d)) (meHi a b (huL a b c d) (huH a b c d)) 9218868437227405312 18442240474082181120 := by
  obtain ⟨e1, e2⟩ := me_absorb h1 h2
  have f1 : btLo a b = 9218868437227405312 := if_neg (by rw [h]; decide)
  have f2 : btHi a b = 18442240474082181120 := if_neg (by rw [h]; decide)
  exact ⟨e1.trans f1, e2.trans f2, nrm_none⟩
theorem full_le {a b : Nat} (h : fullB a b = true) : (FloatKind.f64.format.order a b == some .lt || FloatKind.f64.format.order a b == some .eq) = true := by
  unfold fullB at h
  simp only [Bool.and_eq_true] at h
  exact h.1.1
theorem none_gt {a b : Nat} (h1 : E2 a b) (h : noneB a b = true) : FloatKind.f64.format.order a b = some .gt := by
  unfold noneB at h
  simp only [Bool.and_eq_true, beq_iff_eq] at h
  have n1 := order_some (x := a) (by rw [h.1]; simp)
  have n2 := order_some (x := b) (by rw [h.2]; simp)
  rw [order_eq _ _ h1.1 (by decide) n1 (by decide), order_eq _ _ h1.2 (by decide) n2 (by decide)] at h
  have q1 := Int.compare_eq_eq.1 (Option.some.inj h.1)
  have q2 := Int.compare_eq_eq.1 (Option.some.inj h.2)
  rw [order_eq _ _ h1.1 h1.2 n1 n2, q1, q2]
  decide +kernel
theorem in_trans {a b c d e f : Nat} (h1 : inB a b c d = true) (h2 : inB c d e f = true) : inB a b e f = true := by
  unfold inB at *
  simp only [Bool.and_eq_true, decide_eq_true_eq] at *
  omega
theorem in_self (a b : Nat) : inB a b a b = true := by
  unfold inB
  simp
theorem in_both {a b c d : Nat} (h1 : E2 a b) (h2 : E2 c d) (k1 : inB a b c d = true) (k2 : inB c d a b = true) : EqN (huL a b a b) (huH a b a b) (huL c d c d) (huH c d c d) := by
  refine ⟨?_, ?_, hu_nrm h2 h2⟩
  all_goals
    obtain ⟨s1, s2⟩ := hu_self h1
    obtain ⟨s3, s4⟩ := hu_self h2
    unfold inB at k1 k2
    simp only [Bool.and_eq_true, decide_eq_true_eq] at k1 k2
    have n1 := nrm_any h1.1 h1.2
    have n2 := nrm_any h2.1 h2.2
  · rw [s1, s3]; exact cn_inj n1.1 n2.1 (by omega)
  · rw [s2, s4]; exact cn_inj n1.2.1 n2.2.1 (by omega)
theorem meets_same {a b c d : Nat} (h1 : E2 a b) (h2 : E2 c d) : noneB (meLo a b c d) (meHi a b c d) = sameB (meLo a b c d) (meHi a b c d) 9218868437227405312 18442240474082181120 := none_bits (me_nrm h1 h2)
end Go.Proofs.YtilffgmekeeohaaDoor

namespace Go.Proofs.YtilffgmekeeohaaDoor
open Go.RowKit Go.IntWalk

/-- Beyond the greatest number: just the infinity. -/
theorem inf_up {x : Nat} (hx : x < 18446744073709551616) : (FloatKind.f64.format.order x 9218868437227405311 == some .gt) = (FloatKind.f64.format.order x 9218868437227405312 == some .eq) := by
  by_cases c : 9218868437227405312 < x % 9223372036854775808
  · rw [order_nan_l x _ c, order_nan_l x _ c]; rfl
  · have hn : x % 9223372036854775808 ≤ 9218868437227405312 := by omega
    obtain ⟨a1, _, a3, a4⟩ := sv_beyond hn
    rw [order_eq x _ hx (by decide) hn (by decide), order_eq x _ hx (by decide) hn (by decide)]
    show (some (compare (sv x) (sv 9218868437227405311)) == some .gt) = (some (compare (sv x) PI) == some .eq)
    by_cases k : sv x = PI
    · rw [cmp_eq k, cmp_gt (a1.2 k)]; rfl
    · rw [cmp_lt (show sv x < PI by omega)]
      rcases Int.lt_trichotomy (sv x) (sv 9218868437227405311) with d | d | d
      · rw [cmp_lt d]; rfl
      · rw [cmp_eq d]; rfl
      · exact absurd (a1.1 d) k
theorem inf_down {x : Nat} (hx : x < 18446744073709551616) : (FloatKind.f64.format.order (flipOf x) 9218868437227405311 == some .gt) = (FloatKind.f64.format.order x 18442240474082181120 == some .eq) := by
  by_cases c : 9218868437227405312 < x % 9223372036854775808
  · rw [order_nan_l x _ c, order_nan_l (flipOf x) _ (by rw [(flip6_md hx).1]; exact c)]; rfl
  · have hn : x % 9223372036854775808 ≤ 9218868437227405312 := by omega
    obtain ⟨_, a2, a3, a4⟩ := sv_beyond hn
    rw [svmin] at a2
    rw [order_eq x _ hx (by decide) hn (by decide), order_eq (flipOf x) _ (flip6_lt hx) (by decide) (by rw [(flip6_md hx).1]; exact hn) (by decide), pi_neg, flip6_sv hx]
    by_cases k : sv x = -PI
    · have := a2.2 k
      rw [cmp_eq k, cmp_gt (by omega)]; rfl
    · rw [cmp_gt (show -PI < sv x by omega)]
      rcases Int.lt_trichotomy (-sv x) (sv 9218868437227405311) with d | d | d
      · rw [cmp_lt d]; rfl
      · rw [cmp_eq d]; rfl
      · exact absurd (a2.1 (by omega)) k
/-- Has' answer. -/
def hasB (a b x : Nat) : Bool := fullB a b && (finB x && (leB a x && leB x b))
theorem nan_le {x y : Nat} (h : 9218868437227405312 < x % 9223372036854775808 ∨ 9218868437227405312 < y % 9223372036854775808) : leB x y = false := by
  unfold leB
  rcases h with h | h
  · rw [order_nan_l x y h]; rfl
  · rw [order_nan_r x y h]; rfl
theorem le_nn {x y : Nat} (hx : Nn x) (hy : Nn y) : leB x y = decide (sv x ≤ sv y) := by
  unfold leB
  rw [order_eq x y hx.1 hy.1 hx.2 hy.2]
  rcases Int.lt_trichotomy (sv x) (sv y) with c | c | c
  · rw [cmp_lt c, decide_eq_true (by omega)]; rfl
  · rw [cmp_eq c, decide_eq_true (by omega)]; rfl
  · rw [cmp_gt c, decide_eq_false (by omega)]; rfl
theorem cn_nn {x : Nat} (h : Cn x) : Nn x := ⟨h.1, h.2.1⟩
theorem le_plus {a x : Nat} (ha : Nn a) (hx : x < 18446744073709551616) : leB (plusOf a) x = leB a x ∧ leB x (plusOf a) = leB x a := by
  by_cases c : 9218868437227405312 < x % 9223372036854775808
  · rw [nan_le (Or.inr c), nan_le (Or.inr c), nan_le (Or.inl c), nan_le (Or.inl c)]
    exact ⟨rfl, rfl⟩
  · have hn : Nn x := ⟨hx, by omega⟩
    have hp := cn_nn (cn_plus ha.1 ha.2)
    rw [le_nn hp hn, le_nn ha hn, le_nn hn hp, le_nn hn ha, plus_sv a ha.1 ha.2]
    exact ⟨rfl, rfl⟩
theorem has_is {a b x : Nat} (h1 : E2 a b) (hx : x < 18446744073709551616) : (leB (btLo a b) x && (leB x (btHi a b) && !decide (x % 9223372036854775808 = 9218868437227405312))) = hasB a b x := by
  unfold hasB
  by_cases c : fullB a b = true
  · obtain ⟨n1, n2⟩ := full_nn h1.1 h1.2 c
    have e1 : btLo a b = plusOf a := if_pos c
    have e2 : btHi a b = plusOf b := if_pos c
    rw [e1, e2, (le_plus n1 hx).1, (le_plus n2 hx).2, c, Bool.true_and]
    unfold finB
    by_cases d : 9218868437227405312 < x % 9223372036854775808
    · rw [nan_le (Or.inr d), decide_eq_false (show ¬ x % 9223372036854775808 < 9218868437227405312 by omega)]; rfl
    · by_cases k : x % 9223372036854775808 = 9218868437227405312
      · rw [decide_eq_true k, decide_eq_false (by omega)]
        cases leB a x <;> cases leB x b <;> rfl
      · rw [decide_eq_false k, decide_eq_true (by omega)]
        cases leB a x <;> cases leB x b <;> rfl
  · have e1 : btLo a b = 9218868437227405312 := if_neg c
    have e2 : btHi a b = 18442240474082181120 := if_neg c
    rw [e1, e2, Bool.eq_false_iff.2 c, Bool.false_and]
    by_cases d : 9218868437227405312 < x % 9223372036854775808
    · rw [nan_le (Or.inr d)]; rfl
    · have hn : Nn x := ⟨hx, by omega⟩
      obtain ⟨_, _, b3, b4⟩ := sv_beyond hn.2
      have hp := pi_pos
      rw [le_nn (cn_nn cn_pi) hn, le_nn hn (cn_nn cn_ni), pi_neg]
      show (decide (PI ≤ sv x) && _) = false
      by_cases k : PI ≤ sv x
      · rw [decide_eq_false (show ¬ sv x ≤ -PI by omega)]
        cases decide (PI ≤ sv x) <;> rfl
      · rw [decide_eq_false k]; rfl
end Go.Proofs.YtilffgmekeeohaaDoor

namespace Go.Proofs.YtilffgmekeeohaaDoor
open Go.RowKit Go.IntWalk

set_option maxHeartbeats 400000 in
theorem Canon6_any (x : Nat) (w : World) (hx : x < 18446744073709551616) : Calls Tryd.prog 47 #[.float .f64 x] w fun r w' => r = .returned (.float .f64 (canonOf x)) ∧ Below w.heap.size w w' := by
  have h1 := f64bits
  have h2 := f64from
  go_enter Tryd.func47, Tryd.ntmps47
  go_wp2_with fail
  refine (layout64_any _).mono ?_
  rintro r w1 ⟨rfl, hb⟩
  go_wp2_with fail
  refine (canon_any x _ hx).mono ?_
  rintro r w2 ⟨rfl, hb2⟩
  go_wp2_with fail
  go_ret
  exact ⟨rfl, bl_then hb hb2⟩
set_option maxHeartbeats 400000 in
theorem nan6_lib (w : World) : Calls Tryd.prog 48 #[] w fun r w' => r = .returned (.float .f64 9221120237041090561) ∧ w' = w := by
  have h2 := f64fromI6
  go_enter Tryd.func48, Tryd.ntmps48
  go_wp2
  go_ret
  exact ⟨rfl, rfl⟩
set_option maxHeartbeats 400000 in
theorem theNaN6_any (w : World) : Calls Tryd.prog 24 #[] w fun r w' => r = .returned (.float .f64 9221120237041090561) ∧ Below w.heap.size w w' := by
  have HC := hid (fun (W : World) => Canon6_any 9221120237041090561 W (by decide))
  rw [show canonOf 9221120237041090561 = 9221120237041090561 by decide] at HC
  go_enter Tryd.func24, Tryd.ntmps24
  go_wp2_with fail
  refine (nan6_lib _).mono ?_
  rintro r w1 ⟨rfl, rfl⟩
  go_wp2_with fail
  refine (HC.out _).mono ?_
  rintro r w2 ⟨rfl, hb⟩
  have HB := hid hb
  clear hb
  go_wp2
  go_ret
  exact ⟨rfl, HB.out⟩
/-- interval's half of two finite ends lies between them. -/
theorem half_fin (A B : Nat) (hA : Cn A) (hB : Cn B) (fA : A % 9223372036854775808 < 9218868437227405312) (fB : B % 9223372036854775808 < 9218868437227405312) (h : sv A ≤ sv B) : ∃ q, (q < 18446744073709551616 ∧ q % 9223372036854775808 < 9218868437227405312 ∧ sv A ≤ sv q ∧ sv q ≤ sv B) ∧ ∀ w, Calls Tryd.prog 27 #[.float .f64 A, .float .f64 B] w fun r w' => r = .returned (.float .f64 q) ∧ w' = w := by
  rcases half_plain A B hA hB fA fB h with ⟨s, q, e1, s1, s2, e2, hq⟩ | ⟨s, a, b, q, e1, s1, s2, e2, e3, e4, hq⟩
  · refine ⟨q, hq, fun w => ?_⟩
    have HI := hid (fun (W : World) => isinf6_fl s W s1)
    rw [decide_eq_false (by omega)] at HI
    have g1 := f6_add e1
    have g2 := f6_div e2
    clear hq s1 s2 e1 e2 hA hB fA fB h
    go_enter Tryd.func27, Tryd.ntmps27
    go_wp2_with fail
    refine (HI.out _).mono ?_
    rintro r w1 ⟨rfl, rfl⟩
    go_wp2
    go_ret
    exact ⟨rfl, rfl⟩
  · refine ⟨q, hq, fun w => ?_⟩
    have HI := hid (fun (W : World) => isinf6_fl s W s1)
    rw [decide_eq_true s2] at HI
    have g1 := f6_add e1
    have g2 := f6_div e2
    have g3 := f6_div e3
    have g4 := f6_add e4
    clear hq s1 s2 e1 e2 e3 e4 hA hB fA fB h
    go_enter Tryd.func27, Tryd.ntmps27
    go_wp2_with fail
    refine (HI.out _).mono ?_
    rintro r w1 ⟨rfl, rfl⟩
    go_wp2
    go_ret
    exact ⟨rfl, rfl⟩
end Go.Proofs.YtilffgmekeeohaaDoor
