
/- interval's half: between the ends. -/
import Derived.Test.YtilffgmekeeohaaDoorP18
import Derived.Test.YtilffgmekeeohaaDoorP1
namespace Go.Proofs.YtilffgmekeeohaaDoor
open Go.RowKit Go.IntWalk

theorem Fz_two {v : Int} (h : Fz v) : Fz (2 * v) := by
  have hb := dN_hi v.natAbs
  have hd : ((2 ^ Dz v : Nat) : Int) ∣ v := h
  refine Fz_of _ (Dz v + 1) ?_ ?_
  · obtain ⟨k, hk⟩ := hd
    refine ⟨k, ?_⟩
    rw [Nat.pow_succ]
    have e : ((2 ^ Dz v * 2 : Nat) : Int) = ((2 ^ Dz v : Nat) : Int) * 2 := by omega
    rw [e, Int.mul_assoc, Int.mul_comm 2 k, ← Int.mul_assoc, ← hk, Int.mul_comm]
  · have e : Dz v = dN v.natAbs := rfl
    rw [Nat.pow_succ, e]
    omega
theorem Fz_even {v : Int} (h : Fz v) (hb : 9007199254740992 ≤ v.natAbs) : ∃ k, v = 2 * k := by
  have hl := dN_hi v.natAbs
  have hd : ((2 ^ Dz v : Nat) : Int) ∣ v := h
  have e : Dz v = dN v.natAbs := rfl
  have h1 : Dz v ≠ 0 := by
    intro c
    rw [e] at c
    rw [c, Nat.pow_zero] at hl
    omega
  obtain ⟨n, hn⟩ : ∃ n, Dz v = n + 1 := ⟨Dz v - 1, by omega⟩
  rw [hn, Nat.pow_succ] at hd
  obtain ⟨k, hk⟩ := hd
  refine ⟨((2 ^ n : Nat) : Int) * k, ?_⟩
  have e2 : ((2 ^ n * 2 : Nat) : Int) = 2 * ((2 ^ n : Nat) : Int) := by omega
  rw [hk, e2, Int.mul_assoc]
theorem far_max : sv 9218868437227405311 + 1152921504606846976 < PI := by decide +kernel
theorem half_plain (A B : Nat) (hA : Cn A) (hB : Cn B) (fA : A % 9223372036854775808 < 9218868437227405312) (fB : B % 9223372036854775808 < 9218868437227405312) (h : sv A ≤ sv B) :
    (∃ s q, FloatKind.f64.format.add A B = some s ∧ s < 18446744073709551616 ∧ s % 9223372036854775808 < 9218868437227405312 ∧ FloatKind.f64.format.div s 4611686018427387904 = some q ∧ (q < 18446744073709551616 ∧ q % 9223372036854775808 < 9218868437227405312 ∧ sv A ≤ sv q ∧ sv q ≤ sv B)) ∨
    (∃ s a b q, FloatKind.f64.format.add A B = some s ∧ s < 18446744073709551616 ∧ s % 9223372036854775808 = 9218868437227405312 ∧ FloatKind.f64.format.div A 4611686018427387904 = some a ∧ FloatKind.f64.format.div B 4611686018427387904 = some b ∧ FloatKind.f64.format.add a b = some q ∧ (q < 18446744073709551616 ∧ q % 9223372036854775808 < 9218868437227405312 ∧ sv A ≤ sv q ∧ sv q ≤ sv B)) := by
  obtain ⟨g, e, hg⟩ := add_val A B hA.1 hB.1 fA fB
  obtain ⟨V, hV⟩ : ∃ V, sv A + sv B = V := ⟨_, rfl⟩
  rw [hV] at e hg
  have kA := max_fin fA
  have kB := max_fin fB
  by_cases hr : rnR V.natAbs < 9218868437227405312
  · left
    obtain ⟨a1, a2, a3⟩ := signN_mod g (rnR V.natAbs) (by omega)
    have hs := sv_rz g V hr hg
    obtain ⟨q, e2, q1, q2, q3⟩ := div_two _ a3 (by rw [a1]; exact hr)
    rw [hs] at q3
    have n1 := rz_near V (2 * sv A) (Fz_two (Fz_sv A))
    have n2 := rz_near V (2 * sv B) (Fz_two (Fz_sv B))
    exact ⟨_, q, e, a3, by rw [a1]; exact hr, e2, q1, q2, by omega, by omega⟩
  · right
    obtain ⟨b1, b2, b3⟩ := rz_beyond V hr
    have hinf : rnR V.natAbs = 9218868437227405312 := by
      have := (near_rnd false V.natAbs (-1074)).2
      unfold rnR at hr ⊢
      omega
    obtain ⟨a1, a2, a3⟩ := signN_mod g (rnR V.natAbs) (by omega)
    have hfar := far_max
    have hbig : PI ≤ (rz V).natAbs := by
      have hr2 : ¬ rnv V.natAbs < nv 9218868437227405312 := fun c => hr (rn_fin _ c)
      rw [← rz_abs] at hr2
      rw [pi_nv]
      omega
    have n1 := rz_near V (sv 9218868437227405311) (Fz_sv _)
    have n2 := rz_near V (-sv 9218868437227405311) (Fz_neg (Fz_sv _))
    have hmp : 0 < sv 9218868437227405311 := by decide +kernel
    have sg := rz_sign V
    have hpp := pi_pos
    have vbig : sv 9218868437227405311 + 576460752303423488 ≤ V.natAbs := by
      rcases Int.lt_trichotomy V 0 with c | c | c
      · have := sg.2 (by omega); have := b2 c; omega
      · exact absurd c b3
      · have := sg.1 (by omega); have := b1 c; omega
    obtain ⟨ka, ea⟩ := Fz_even (Fz_sv A) (by omega)
    obtain ⟨kb, eb⟩ := Fz_even (Fz_sv B) (by omega)
    obtain ⟨a, d1, p1, p2, p3⟩ := div_two A hA.1 fA
    obtain ⟨b, d2, r1, r2, r3⟩ := div_two B hB.1 fB
    have sa : 2 * sv a = sv A := by omega
    have sb : 2 * sv b = sv B := by omega
    obtain ⟨g2, e2, hg2⟩ := add_val a b p1 r1 p2 r2
    obtain ⟨U, hU⟩ : ∃ U, sv a + sv b = U := ⟨_, rfl⟩
    rw [hU] at e2 hg2
    have m1 := rz_near U (sv 9218868437227405311) (Fz_sv _)
    have m2 := rz_near U (-sv 9218868437227405311) (Fz_neg (Fz_sv _))
    have m3 := rz_near U (sv A) (Fz_sv A)
    have m4 := rz_near U (sv B) (Fz_sv B)
    have hfin : rnR U.natAbs < 9218868437227405312 := by
      refine rn_fin _ ?_
      rw [← rz_abs]
      have hp := pi_nv
      have := svmax
      omega
    obtain ⟨c1, c2, c3⟩ := signN_mod g2 (rnR U.natAbs) (by omega)
    have hs := sv_rz g2 U hfin hg2
    refine ⟨_, a, b, _, e, a3, by rw [a1]; exact hinf, d1, d2, e2, c3, by rw [c1]; exact hfin, ?_, ?_⟩
    · rw [hs]; omega
    · rw [hs]; omega
theorem f6_div {x y z : Nat} (h : FloatKind.f64.format.div x y = some z) (w : World) : (binOp .quo 26 (.float .f64 x) (.float .f64 y)).run Tryd.prog w = .ok (.float .f64 z) w := run_float_arith w .quo _ .f64 x y z h
end Go.Proofs.YtilffgmekeeohaaDoor

namespace Go.Proofs.YtilffgmekeeohaaDoor
open Go.RowKit Go.IntWalk

/-- R at a normal end, and no other end. -/
def AtEnd (R : Act → World → Prop) : Exit → Act → World → Prop
  | .normal, a, w => R a w
  | _, _, _ => False
theorem region_merge {P : Program} {id : Nat} {ops : Array Oper} {b : Bool} {Q : Exit → Act → World → Prop} {a : Act} {w : World} (R : Act → Act → World → Prop) (h : (Code.region id ops b).wp P (AtEnd (R a)) a w) (hR : ∀ a' w', R a a' w' → Q .normal a' w') : (Code.region id ops b).wp P Q a w := by
  refine Code.wp_mono (fun e a' w' hh => ?_) h
  cases e <;> first | exact hR _ _ hh | exact (hh : False).elim
/-- What follows told by a relation, hidden from the walk. -/
theorem region_merge2 {P : Program} {id : Nat} {ops : Array Oper} {b : Bool} {Q : Exit → Act → World → Prop} {a : Act} {w : World} (R : Act → Act → World → Prop) (h : Hid (∀ a' w', R a a' w' → Q .normal a' w') → (Code.region id ops b).wp P Q a w) (hR : ∀ a' w', R a a' w' → Q .normal a' w') : (Code.region id ops b).wp P Q a w := h hR
/-- All blocks of W are in W' as they were. -/
def KeepH (W W' : World) : Prop := W.heap.size ≤ W'.heap.size ∧ ∀ (n : Nat) (o : Obj), W.heap[n]? = some o → W'.heap[n]? = some o
theorem Below.keepH {W W' : World} (h : Below W.heap.size W W') : KeepH W W' := ⟨h.size, fun _ _ hn => (h.block _ (Array.getElem?_eq_some_iff.1 hn).1).trans hn⟩
theorem keepH {W W' : World} (h : KeepH W W') {n : Nat} {o : Obj} (hn : W.heap[n]? = some o) : W'.heap[n]? = some o := h.2 n o hn
theorem new_al {W : World} {o : Obj} {n : Nat} (h : n = W.heap.size) : (W.alloc o).heap[n]? = some o := by rw [h]; exact Array.getElem?_push_size
theorem keep_al {W : World} {o o' : Obj} {n : Nat} (h : W.heap[n]? = some o) : (W.alloc o').heap[n]? = some o := keepH (Below.keepH ((Below.refl W.heap.size W).alloc (Nat.le_refl _) o')) h
theorem keep_dr {W : World} {o : Obj} {n : Nat} (h : W.heap[n]? = some o) : W.drew.heap[n]? = some o := keepH (Below.keepH (Below.refl W.heap.size W).drew) h
theorem ne_blk {W : World} {o : Obj} {n m : Nat} (h : W.heap[n]? = some o) (hm : m = W.heap.size) : n ≠ m := by
  have := (Array.getElem?_eq_some_iff.1 h).1
  omega
/-- A take by hand, its place told. -/
theorem take_at {P : Program} {md : Region.Mode} {ops : Array Oper} {Q : Exit → Act → World → Prop} {S : World → Prop} (i d : Nat) (v : Value) {oi : Oper} {fuel : Nat} {listed : Array Bool} {a : Act} {w : World} (hi : ops[i]? = some oi) (hd : oi.dst = some d)
    (hs : Region.noSelect ops = true) (hf : Region.free md ops listed i = true) (hr : (Region.ready md ops listed).contains i = true)
    (hQ : ∀ c a w, Q (.panic c) (a.put (some d) v) w → Q (.panic c) a w) (hy : YieldsIf P ops S oi v a) (hS : S w)
    (h : wpAnyH P md ops Q S fuel (listed.setIfInBounds i true) (a.put (some d) v) w) : wpAnyH P md ops Q S (fuel + 1) listed a w :=
  wpAnyH_take hi hs hf hr (by rw [hd]; exact hQ) hy hS (by rw [hd]; exact h)
end Go.Proofs.YtilffgmekeeohaaDoor
