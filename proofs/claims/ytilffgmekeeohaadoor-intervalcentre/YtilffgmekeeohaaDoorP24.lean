
/- In, Meets, Below: the document's. -/
import Derived.Test.YtilffgmekeeohaaDoorP20
import Derived.Test.YtilffgmekeeohaaDoorP9
import Derived.Test.YtilffgmekeeohaaDoorP1
import Derived.Test.YtilffgmekeeohaaDoorP6
import Derived.Test.YtilffgmekeeohaaDoorP12
namespace Go.Proofs.YtilffgmekeeohaaDoor
open Go.RowKit Go.IntWalk

def rinB (a b c d : Nat) : Bool := !fullB a b || (fullB c d && (leB c a && leB b d))
def rmeB (a b c d : Nat) : Bool := fullB a b && (fullB c d && (leB a d && leB c b))
def rbeB (a b c d : Nat) : Bool := !fullB a b || (!fullB c d || FloatKind.f64.format.order b c == some .lt)
end Go.Proofs.YtilffgmekeeohaaDoor

namespace Go.Proofs.YtilffgmekeeohaaDoor
open Go.RowKit Go.IntWalk

set_option maxHeartbeats 2000000 in
theorem Has_any (a b x : Nat) (w : World) (h1 : E2 a b) (hx : x < 18446744073709551616) : Calls Tryd.prog 10 #[IV a b, .float .f64 x] w fun r w' => r = .returned (.bool (hasB a b x)) ∧ Below w.heap.size w w' := by
  have g1 := inew w (IBox a b)
  have HB0 : Hid (Below w.heap.size w (w.alloc (IBox a b))) := (Below.refl _ _).alloc (Nat.le_refl _) _
  obtain ⟨W0, hW0⟩ : ∃ V, Hid (w.alloc (IBox a b) = V) := ⟨_, rfl⟩
  rw [hW0.out] at g1 HB0
  have HE := hid (has_is h1 hx)
  obtain ⟨S, hS⟩ : ∃ z, Hid (hasB a b x = z) := ⟨_, rfl⟩
  rw [hS.out] at HE ⊢
  have HT : Hid (∀ W, Hid (Below W0.heap.size W0 W) → Calls Tryd.prog 22 #[IV a b] W fun r w' => r = .returned (IV (btLo a b) (btHi a b)) ∧ w'.cell? ⟨w.heap.size, 0, none⟩ = some (.float .f64 a) ∧ w'.cell? ⟨w.heap.size, 1, none⟩ = some (.float .f64 b) ∧ (∀ o, w'.frozen? ⟨w.heap.size, o, none⟩ = false) ∧ Hid (Below W0.heap.size W0 w')) := fun W hW => by
    refine (taken_any a b W).mono ?_
    rintro r w' ⟨rfl, h⟩
    have h' : Below W0.heap.size W0 w' := hW.out.trans (h.mono hW.out.size)
    have t1 := icells_of ((h'.block _ (Array.getElem?_eq_some_iff.1 g1).1).trans g1)
    exact ⟨rfl, t1.1, t1.2.1, t1.2.2, h'⟩
  have HI := hid (fun (W : World) => isinf6_fl x W hx)
  have HQ0 : Hid (Below W0.heap.size W0 W0) := Below.refl _ _
  obtain ⟨y0, y1, y2⟩ := icells_of (show W0.heap[w.heap.size]? = some (.cells #[.float .f64 a, .float .f64 b] 28) from g1)
  obtain ⟨I, hI⟩ : ∃ z, Hid (decide (x % 9223372036854775808 = 9218868437227405312) = z) := ⟨_, rfl⟩
  rw [hI.out] at HI HE
  obtain ⟨A, hA⟩ : ∃ z, Hid (btLo a b = z) := ⟨_, rfl⟩
  obtain ⟨B, hB⟩ : ∃ z, Hid (btHi a b = z) := ⟨_, rfl⟩
  rw [hA.out, hB.out] at HE HT
  unfold IBox at hW0
  have hW0' := hW0.out
  have hst := fstore
  unfold IV at HT ⊢
  clear g1 h1 hx
  rcases c1 : leB A x with _ | _
  · rw [c1] at HE
    unfold leB at c1
    go_enter Tryd.func10, Tryd.ntmps10
    go_wp2_with fail
    refine (HT.out _ HQ0).mono ?_
    rintro r w1 ⟨rfl, x0, x1, x2, HF⟩
    go_wp2
    go_ret
    exact ⟨ret_boolV HE.out, Below.setCell (Below.setCell (HB0.out.trans (HF.out.mono HB0.out.size)) (Nat.le_refl _) _) (Nat.le_refl _) _⟩
  · rw [c1] at HE
    unfold leB at c1
    rcases c2 : leB x B with _ | _
    · rw [c2] at HE
      unfold leB at c2
      go_enter Tryd.func10, Tryd.ntmps10
      go_wp2_with fail
      refine (HT.out _ HQ0).mono ?_
      rintro r w1 ⟨rfl, x0, x1, x2, HF⟩
      go_wp2
      go_ret
      exact ⟨ret_boolV HE.out, Below.setCell (Below.setCell (HB0.out.trans (HF.out.mono HB0.out.size)) (Nat.le_refl _) _) (Nat.le_refl _) _⟩
    · rw [c2] at HE
      unfold leB at c2
      go_enter Tryd.func10, Tryd.ntmps10
      go_wp2_with fail
      refine (HT.out _ HQ0).mono ?_
      rintro r w1 ⟨rfl, x0, x1, x2, HF⟩
      go_wp2_with fail
      refine (HI.out _).mono ?_
      rintro r w2 ⟨rfl, rfl⟩
      go_wp2
      go_ret
      exact ⟨ret_boolV (by rw [← HE.out]; rfl), Below.setCell (Below.setCell (HB0.out.trans (HF.out.mono HB0.out.size)) (Nat.le_refl _) _) (Nat.le_refl _) _⟩
end Go.Proofs.YtilffgmekeeohaaDoor

namespace Go.Proofs.YtilffgmekeeohaaDoor
open Go.RowKit Go.IntWalk

/-- Below the last zero a halved mantissa is even, and not 0. -/
theorem half_even (m : Nat) (h0 : m ≠ 0) (hm : m < 18446744073709551616) (k : Nat) (hk : k < tzOf m) : m / 2 ^ k ≠ 0 ∧ m / 2 ^ k % 2 = 0 ∧ m / 2 ^ (k + 1) = m / 2 ^ k / 2 := by
  obtain ⟨q, _, hmq⟩ := odd_spec m h0 hm
  obtain ⟨tz, htz⟩ : ∃ tz, tzOf m = tz := ⟨_, rfl⟩
  rw [htz] at hmq hk
  have e0 : tz = k + (tz - k - 1 + 1) := by omega
  have e1 : m / 2 ^ k = 2 * (2 ^ (tz - k - 1) * (2 * q + 1)) := by
    rw [hmq, e0, Nat.pow_add, Nat.mul_assoc, Nat.mul_div_cancel_left _ (Nat.two_pow_pos k), Nat.pow_succ, Nat.mul_comm (2 ^ _) 2, Nat.mul_assoc]
    congr 3
    omega
  have e2 : 2 ^ (tz - k - 1) * (2 * q + 1) ≠ 0 := Nat.mul_ne_zero (Nat.pos_iff_ne_zero.1 (Nat.two_pow_pos _)) (by omega)
  exact ⟨by omega, by omega, by rw [Nat.pow_succ, Nat.div_div_eq_div_mul]⟩
set_option maxHeartbeats 400000 in
theorem rodd_zero (e : Int) (w : World) :
    Calls Tryd.prog 51 #[.int .u64 0, .int .i64 e] w fun r w' => r = .returned (.tuple #[.int .u64 0, .int .i64 0]) ∧ w' = w := by
  go_enter Tryd.func51, Tryd.ntmps51
  go_wp2
  go_ret2
  exact ⟨rfl, rfl⟩
/-- What the loop has come to. -/
def OddR (m : Nat) (e c E : Int) : Prop := ∃ k : Nat, k ≤ tzOf m ∧ ((m / 2 ^ k : Nat) : Int) = c ∧ e + (k : Int) = E
set_option maxRecDepth 4000 in
set_option maxHeartbeats 800000 in
theorem rodd_any (m : Nat) (e : Int) (w : World) (hm : m < 18446744073709551616) (h0 : m ≠ 0) (he1 : -3000 ≤ e) (he2 : e ≤ 3000) :
    Calls Tryd.prog 51 #[.int .u64 m, .int .i64 e] w fun r w' => r = .returned (.tuple #[.int .u64 (oddOf m), .int .i64 (e + (tzOf m : Int))]) ∧ w' = w := by
  obtain ⟨q, hq, _⟩ := odd_spec m h0 hm
  have HT6 : Hid (tzOf m ≤ 63) := by have := (tz_spec m h0 hm).1; show tzOf m ≤ 63; omega
  have HSTEP : Hid (∀ c E, OddR m e c E → (0 ≤ c ∧ c ≤ 18446744073709551615 ∧ -3000 ≤ E ∧ E ≤ 3100 ∧ 0 ≤ E - e) ∧ ((c % 2 = 0 ∧ OddR m e (c / 2) (E + 1) ∧ E - e < 64) ∨ (c % 2 = 1 ∧ c = (oddOf m : Int) ∧ E = e + (tzOf m : Int)))) := by
    rintro c E ⟨k, hk, rfl, rfl⟩
    have h6 := HT6.out
    have h7 : m / 2 ^ k ≤ m := Nat.div_le_self _ _
    obtain ⟨d, hd⟩ : ∃ d, m / 2 ^ k = d := ⟨_, rfl⟩
    rw [hd] at h7 ⊢
    refine ⟨⟨by omega, by omega, by omega, by omega, by omega⟩, ?_⟩
    by_cases hlt : k < tzOf m
    · obtain ⟨g1, g2, g3⟩ := half_even m h0 hm k hlt
      rw [hd] at g1 g2 g3
      left
      refine ⟨by omega, ⟨k + 1, hlt, ?_, by omega⟩, by omega⟩
      rw [g3]
      omega
    · have hkz : k = tzOf m := by omega
      right
      have ho : d = oddOf m := by rw [← hd, hkz]; rfl
      rw [ho]
      exact ⟨by omega, rfl, by rw [hkz]⟩
  have HST : Hid (OddR m e (m : Int) e) := ⟨0, Nat.zero_le _, by rw [Nat.pow_zero, Nat.div_one], by omega⟩
  obtain ⟨M, hM⟩ : ∃ M : Int, Hid ((m : Int) = M) := ⟨_, rfl⟩
  obtain ⟨R1, hR1⟩ : ∃ M : Int, Hid ((oddOf m : Int) = M) := ⟨_, rfl⟩
  obtain ⟨R2, hR2⟩ : ∃ M : Int, Hid (e + (tzOf m : Int) = M) := ⟨_, rfl⟩
  have hM0 : ¬ M = 0 := by have := hM.out; omega
  rw [hM.out] at HST ⊢
  rw [hR1.out] at HSTEP ⊢
  rw [hR2.out] at HSTEP ⊢
  clear hm h0 hq he1 he2
  go_enter Tryd.func51, Tryd.ntmps51
  go_wp2
  go_loop [0, 1] (fun a b => ∃ c E : Int, Hid (OddR m e c E) ∧ a = .int .u64 c ∧ b = .int .i64 E) (fun _ b => 64 - (intOf b - e).toNat)
  case atStart => exact ⟨M, e, HST, rfl, rfl⟩
  case round =>
    obtain ⟨c, E, HR, rfl, rfl⟩ := hrel
    obtain ⟨⟨b1, b2, b3, b4, b5⟩, hcase⟩ := HSTEP.out c E HR.out
    rcases hcase with ⟨hev, hnx, hms⟩ | ⟨hod, rfl, rfl⟩
    · have HN := hid hnx
      have HMS := hid (And.intro hms b5)
      have ht1 : c.tmod 2 = 0 := by rw [Int.tmod_eq_emod_of_nonneg b1]; exact hev
      have ht2 : c.tdiv 2 = c / 2 := Int.tdiv_eq_ediv_of_nonneg b1
      have hw1 : IntKind.u64.wrap (c / 2) = c / 2 := by rw [IntKind.wrap_u64]; omega
      have hw2 : IntKind.i64.wrap (E + 1) = E + 1 := by rw [IntWalk.i64_in _ (by omega)]
      clear hnx hms
      go_wp2
      go_round
      case rel => exact ⟨c / 2, E + 1, HN, rfl, rfl⟩
      case measure => have := HMS.out; simp [intOf]; omega
    · have ht1 : ¬ c.tmod 2 = 0 := by rw [Int.tmod_eq_emod_of_nonneg b1]; omega
      go_wp2
      go_ret2
      exact ⟨rfl, rfl⟩
end Go.Proofs.YtilffgmekeeohaaDoor

namespace Go.Proofs.YtilffgmekeeohaaDoor
open Go.RowKit Go.IntWalk

set_option maxRecDepth 4000 in
set_option maxHeartbeats 1000000 in
/-- From the fields to the parts, by odd's answer. -/
theorem rParts_core (x : Nat) (neg : Bool) (E F G e' m k : Int) (w : World) (hS : ∀ W, Calls Tryd.prog 50 #[.float .f64 x] W fun e w' => e = .returned (.tuple #[.bool neg, .int .i64 E, .int .u64 F]) ∧ w' = W) (hE0 : 0 ≤ E) (hE : E ≤ 2046) (hF0 : 0 ≤ F) (hF : F ≤ 4503599627370495) (hG : G = if 0 < E then F + 4503599627370496 else F) (he : e' = (if 0 < E then E - 1 else E) - 1074)
    (hO : ∀ W, Calls Tryd.prog 51 #[.int .u64 G, .int .i64 e'] W fun r w' => r = .returned (.tuple #[.int .u64 m, .int .i64 k]) ∧ w' = W) :
    Calls Tryd.prog 30 #[.float .f64 x] w fun r w' => r = .returned (.tuple #[.agg #[.bool neg, .int .u64 m, .int .i64 k], .int .i64 0]) ∧ Below w.heap.size w w' := by
  have HS := hid hS
  have HO := hid hO
  clear hS hO
  have hEn : ¬ E = 2047 := by omega
  by_cases h0 : 0 < E
  · rw [if_pos h0] at hG he
    have hw1 : IntKind.u64.wrap (F + 4503599627370496) = G := by rw [IntKind.wrap_u64]; omega
    have hw2 : F + 4503599627370496 = G := by omega
    have hw2' : IntKind.u64.wrap G = G := by rw [IntKind.wrap_u64]; omega
    have hw3 : IntKind.i64.wrap (E - 1) = E - 1 := by rw [IntWalk.i64_in _ (by omega)]
    have hw4 : IntKind.i64.wrap (E - 1 - 1074) = e' := by rw [IntWalk.i64_in _ (by omega)]; omega
    have hw5 : E - 1 - 1074 = e' := by omega
    have hw6 : wrap64 e' = e' := by unfold wrap64; omega
    have hw7 : IntKind.i64.wrap e' = e' := by rw [IntWalk.i64_in _ (by omega)]
    clear hG he hF hE hF0 hE0
    go_enter Tryd.func30, Tryd.ntmps30
    go_wp2_with fail
    refine (HS.out _).mono ?_
    rintro r w1 ⟨rfl, rfl⟩
    go_wp2_with fail
    refine (HO.out _).mono ?_
    rintro r w2 ⟨rfl, rfl⟩
    go_wp2
    exact bodyPost_ret (v := .tuple #[.agg #[.bool neg, .int .u64 m, .int .i64 k], .int .i64 0]) (by simp [results, Tryd.results30, go_sem]) rfl ⟨rfl, (Below.refl _ _).alloc (Nat.le_refl _) _⟩
  · rw [if_neg h0] at hG he
    have hE1 : E = 0 := by omega
    subst hE1
    subst hG
    have he2 : e' = -1074 := by omega
    subst he2
    clear he hF hE hF0 hE0 h0
    go_enter Tryd.func30, Tryd.ntmps30
    go_wp2_with fail
    refine (HS.out _).mono ?_
    rintro r w1 ⟨rfl, rfl⟩
    go_wp2_with fail
    refine (HO.out _).mono ?_
    rintro r w2 ⟨rfl, rfl⟩
    go_wp2
    exact bodyPost_ret (v := .tuple #[.agg #[.bool neg, .int .u64 m, .int .i64 k], .int .i64 0]) (by simp [results, Tryd.results30, go_sem]) rfl ⟨rfl, (Below.refl _ _).alloc (Nat.le_refl _) _⟩
set_option maxHeartbeats 1000000 in
theorem rParts_bad (x : Nat) (neg : Bool) (F : Int) (w : World) (hS : ∀ W, Calls Tryd.prog 50 #[.float .f64 x] W fun e w' => e = .returned (.tuple #[.bool neg, .int .i64 2047, .int .u64 F]) ∧ w' = W) :
    Calls Tryd.prog 30 #[.float .f64 x] w fun r w' => r = .returned (.tuple #[.agg #[.bool false, .int .u64 0, .int .i64 0], .int .i64 4]) ∧ Below w.heap.size w w' := by
  have HS := hid hS
  clear hS
  go_enter Tryd.func30, Tryd.ntmps30
  go_wp2_with fail
  refine (HS.out _).mono ?_
  rintro r w1 ⟨rfl, rfl⟩
  go_wp2
  exact bodyPost_ret (v := .tuple #[.agg #[.bool false, .int .u64 0, .int .i64 0], .int .i64 4]) (by simp [results, Tryd.results30, go_sem]) rfl ⟨rfl, (Below.refl _ _).alloc (Nat.le_refl _) _⟩
theorem rParts_any (x : Nat) (w : World) (hx : x < 18446744073709551616) :
    Calls Tryd.prog 30 #[.float .f64 x] w fun r w' => r = .returned (.tuple #[.agg #[.bool (pNeg x), .int .u64 (pMant x), .int .i64 (pExp x)], .int .i64 (pErr x)]) ∧ Below w.heap.size w w' := by
  have hS := fun (W : World) => rsplit_any x W hx
  have hel := exp_lt x
  have hfl := frac_lt x
  by_cases h : expOf x = 2047
  · have e1 : pNeg x = false := by unfold pNeg; rw [if_pos h]
    have e2 : pMant x = 0 := by unfold pMant; rw [if_pos h]
    have e3 : pExp x = 0 := by unfold pExp; rw [if_pos (Or.inl h)]
    have e4 : pErr x = 4 := by unfold pErr; rw [if_pos h]
    rw [h] at hS
    rw [e1, e2, e3, e4]
    exact rParts_bad x _ _ w hS
  · have e1 : pNeg x = negOf x := by unfold pNeg; rw [if_neg h]
    have e2 : pMant x = oddOf (mantOf x) := by unfold pMant; rw [if_neg h]
    have e4 : pErr x = 0 := by unfold pErr; rw [if_neg h]
    have hml := mant_lt x
    rw [e1, e2, e4]
    have hG : (mantOf x : Int) = if (0 : Int) < (expOf x : Int) then (fracOf x : Int) + 4503599627370496 else (fracOf x : Int) := by
      unfold mantOf
      split <;> split <;> omega
    by_cases h0 : mantOf x = 0
    · have e3 : pExp x = 0 := by unfold pExp; rw [if_pos (Or.inr h0)]
      have e5 : oddOf (mantOf x) = 0 := by rw [h0]; exact Nat.zero_div _
      rw [e3, e5]
      refine rParts_core x _ (expOf x) (fracOf x) (mantOf x) _ 0 0 w hS (by omega) (by omega) (by omega) (by omega) hG rfl (fun W => ?_)
      rw [h0]
      exact rodd_zero _ W
    · have e3 : pExp x = (if (0 : Int) < (expOf x : Int) then (expOf x : Int) - 1 else (expOf x : Int)) - 1074 + (tzOf (mantOf x) : Int) := by
        unfold pExp
        rw [if_neg (by omega)]
        split <;> omega
      rw [e3]
      exact rParts_core x _ (expOf x) (fracOf x) (mantOf x) _ _ _ w hS (by omega) (by omega) (by omega) (by omega) hG rfl (fun W => rodd_any (mantOf x) _ W (by omega) h0 (by split <;> omega) (by split <;> omega))
end Go.Proofs.YtilffgmekeeohaaDoor

namespace Go.Proofs.YtilffgmekeeohaaDoor
open Go

def natL : List Nat → Nat
  | [] => 0
  | d :: t => d + 4294967296 * natL t
/-- All words fit; the last one isn't 0. -/
def DigL (L : List Nat) : Prop := ∀ d, d ∈ L → d < 4294967296
def CanL (L : List Nat) : Prop := L ≠ [] → L.getD (L.length - 1) 0 ≠ 0
theorem natL_append (A B : List Nat) : natL (A ++ B) = natL A + 4294967296 ^ A.length * natL B := by
  induction A with
  | nil => show natL B = 0 + 1 * natL B; omega
  | cons d t ih =>
    show d + 4294967296 * natL (t ++ B) = d + 4294967296 * natL t + 4294967296 ^ (t.length + 1) * natL B
    rw [ih, Nat.mul_add, Nat.pow_succ, Nat.mul_comm (4294967296 ^ t.length) 4294967296, Nat.mul_assoc]
    omega
theorem DigL.get {L : List Nat} (h : DigL L) (i : Nat) : L.getD i 0 < 4294967296 := by
  rw [List.getD_eq_getElem?_getD]
  cases hc : L[i]? with
  | none => decide
  | some d => exact h d (List.mem_of_getElem? hc)
theorem DigL.take {L : List Nat} (h : DigL L) (k : Nat) : DigL (L.take k) := fun d hd => h d (List.mem_of_mem_take hd)
theorem natL_lt (L : List Nat) (h : DigL L) : natL L < 4294967296 ^ L.length := by
  induction L with
  | nil => decide
  | cons d t ih =>
    have h1 := h d (List.mem_cons_self ..)
    have h2 := ih (fun e he => h e (List.mem_cons_of_mem _ he))
    show d + 4294967296 * natL t < 4294967296 ^ (t.length + 1)
    rw [Nat.pow_succ, Nat.mul_comm (4294967296 ^ t.length)]
    omega
theorem natL_take_succ (L : List Nat) (k : Nat) (h : k < L.length) : natL (L.take (k + 1)) = natL (L.take k) + 4294967296 ^ k * L.getD k 0 := by
  rw [List.take_succ_eq_append_getElem h, natL_append, List.length_take, Nat.min_eq_left (Nat.le_of_lt h)]
  congr 1
  show _ * (L[k] + 4294967296 * 0) = _
  rw [Nat.mul_zero, Nat.add_zero]
  simp [List.getD, h]
/-- Noughts at the end count for nothing. -/
theorem natL_take_zero (L : List Nat) (k : Nat) (h : k < L.length) (hz : L.getD k 0 = 0) : natL (L.take (k + 1)) = natL (L.take k) := by
  rw [natL_take_succ L k h, hz, Nat.mul_zero, Nat.add_zero]
/-- A list without noughts at its end is the only one of its value. -/
theorem natL_ge (L : List Nat) (h0 : L ≠ []) (hc : CanL L) : 4294967296 ^ (L.length - 1) ≤ natL L := by
  obtain ⟨k, hk⟩ : ∃ k, L.length = k + 1 := ⟨L.length - 1, by have := List.length_pos_iff.2 h0; omega⟩
  have e := natL_take_succ L k (by omega)
  rw [← hk, List.take_length] at e
  have hne := hc h0
  rw [hk] at hne ⊢
  rw [Nat.add_sub_cancel] at hne ⊢
  have : 4294967296 ^ k * 1 ≤ 4294967296 ^ k * L.getD k 0 := Nat.mul_le_mul_left _ (by omega)
  omega
theorem natL_zero (L : List Nat) (hc : CanL L) : natL L = 0 ↔ L = [] := by
  constructor
  · intro h
    apply Classical.byContradiction
    intro h0
    have := natL_ge L h0 hc
    have := Nat.pow_pos (n := L.length - 1) (show 0 < 4294967296 by decide)
    omega
  · intro h; rw [h]; rfl
end Go.Proofs.YtilffgmekeeohaaDoor
