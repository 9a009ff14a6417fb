
/- A row of noughts: what an update by it tells. Plain. -/
import Derived.Test.YthakhmnlpmfdgaaP36
import Derived.Test.YthakhmnlpmfdgaaP24
import Derived.Test.YthakhmnlpmfdgaaP39
import Derived.Test.YthakhmnlpmfdgaaP29
import Derived.Test.YthakhmnlpmfdgaaP25
import Derived.Test.YthakhmnlpmfdgaaP18
import Derived.Test.YthakhmnlpmfdgaaP37
namespace Go.Proofs.Ythakhmnlpmfdgaa
open Go.RowKit Go.IntWalk

theorem caf_nan {op : BinOp} (hop : op = .add ∨ op = .sub ∨ op = .mul) {x y : Nat} (h : NaNW x ∨ NaNW y) : caf op x y = 9221120237041090561 := by
  unfold caf
  rw [fb_nan hop h]
  rfl
theorem quo_nan {x y : Nat} (h : NaNW x ∨ NaNW y) : caf .quo x y = 9221120237041090561 := by
  unfold caf
  rw [div_nan h]
  rfl
theorem nan_c : NaNW 9221120237041090561 := ⟨by decide, by decide⟩
theorem one_rnd : rndM 1 0 = 4607182418800017408 := by decide +kernel
theorem quo_self {q : Nat} (h0 : q ≠ 0) (h1 : q < 9218868437227405312) : caf .quo q q = 4607182418800017408 := by
  have e : q % 9223372036854775808 = q := Nat.mod_eq_of_lt (by omega)
  obtain ⟨m, p, e1, e2⟩ := read_fin q (by omega) (by omega)
  have hm : m ≠ 0 := fun h => by
    rw [h, Nat.zero_mul, e] at e2
    exact h0 (by
      have := nv_lt (show 0 < q by omega)
      omega)
  have key : FloatKind.f64.format.div q q = some 4607182418800017408 := by
    unfold Ieee.Format.div
    rw [e1]
    simp only [Ieee.Datum.quotient]
    rw [if_neg hm]
    simp only [Option.map_some, Bool.xor_self, Nat.add_sub_cancel_right]
    refine congrArg some ?_
    obtain ⟨D, hD⟩ : ∃ D, FloatKind.f64.format.fractionBits + 2 = D := ⟨_, rfl⟩
    rw [hD]
    have e3 : ∀ D : Nat, rndM (2 * 2 ^ D) (((p : Int) - 1074) - ((p : Int) - 1074) - (D : Int) - 1) = 4607182418800017408 := fun D => by
      have := rndM_sc 1 (D + 1) 0
      rw [one_rnd] at this
      rw [← this]
      have h1 : 1 * 2 ^ (D + 1) = 2 * 2 ^ D := by rw [Nat.pow_succ, Nat.one_mul, Nat.mul_comm]
      have h2 : (0 : Int) - ((D + 1 : Nat) : Int) = ((p : Int) - 1074) - ((p : Int) - 1074) - (D : Int) - 1 := by omega
      rw [h1, h2]
    have e4 : m <<< D / m = 2 ^ D := by rw [Nat.shiftLeft_eq]; exact Nat.mul_div_cancel_left _ (by omega)
    have e5 : m <<< D % m = 0 := by rw [Nat.shiftLeft_eq]; exact Nat.mul_mod_right _ _
    rw [e4, e5]
    show FloatKind.f64.format.nearest false (2 * 2 ^ D + 0) _ = _
    rw [(near_rnd _ _ _).1, Nat.add_zero, e3]
    rfl
  have k2 : floatBits .quo .f64 q q = some 4607182418800017408 := key
  unfold caf
  rw [k2]
  show canonOf 4607182418800017408 = _
  decide
theorem quo_zero {p : Nat} (h0 : p ≠ 0) (h1 : p ≤ 9218868437227405312) : caf .quo 0 p = 0 := by
  have hz : FloatKind.f64.format.read 0 = .number false 0 (-1074) := by decide +kernel
  have key : FloatKind.f64.format.div 0 p = some 0 := by
    unfold Ieee.Format.div
    rw [hz]
    rcases nn_read h1 with ⟨m, e, e1⟩ | e1
    · rw [e1]
      simp only [Ieee.Datum.quotient]
      have hm : m ≠ 0 := fun h => by
        rcases Nat.lt_or_ge p 9218868437227405312 with c | c
        · obtain ⟨m', p', e2, e3⟩ := read_fin p (by omega) (by rw [Nat.mod_eq_of_lt (by omega)]; exact c)
          rw [e1] at e2
          injection e2 with _ a2 _
          rw [← a2, h, Nat.zero_mul, Nat.mod_eq_of_lt (by omega)] at e3
          have := nv_lt (show 0 < p by omega)
          omega
        · have := read_inf p (by omega) (by rw [Nat.mod_eq_of_lt (by omega)]; omega)
          rw [e1] at this
          cases this
      rw [if_neg hm]
      simp only [Option.map_some, Bool.xor_self, Nat.zero_shiftLeft, Nat.zero_div, Nat.zero_mod]
      refine congrArg some ?_
      show FloatKind.f64.format.nearest false _ _ = _
      rw [(near_rnd _ _ _).1]
      show signN false (rndM 0 _) = 0
      unfold rndM
      first | done | rfl
    · rw [e1]
      simp only [Ieee.Datum.quotient]
      show some (FloatKind.f64.format.nearest false 0 _) = _
      rw [(near_rnd _ _ _).1]
      unfold rndM
      first | done | rfl
  have k2 : floatBits .quo .f64 0 p = some 0 := key
  unfold caf
  rw [k2]
  show canonOf 0 = 0
  decide
theorem zero_mul {x : Nat} (hx : x < 18446744073709551616) (fx : x % 9223372036854775808 < 9218868437227405312) : caf .mul 0 x = 0 ∨ caf .mul 0 x = 9223372036854775808 := by
  obtain ⟨z, hz, e⟩ := mulq_zero x hx fx
  have k : floatBits .mul .f64 0 x = some z := e
  unfold caf
  rw [k]
  rcases hz with rfl | rfl
  · left; show canonOf 0 = 0; decide
  · right; show canonOf 9223372036854775808 = _; decide
theorem mul_zero' {x : Nat} (hx : x < 18446744073709551616) (fx : x % 9223372036854775808 < 9218868437227405312) : caf .mul x 0 = 0 ∨ caf .mul x 0 = 9223372036854775808 := by
  obtain ⟨s, e, _⟩ := mul_rnd x 0 hx (by decide) fx (by decide)
  rw [svq_of 0 (by decide), Int.mul_zero, show rndM (0 : Int).natAbs (-2148) = 0 by unfold rndM; rfl] at e
  have k : floatBits .mul .f64 x 0 = some (signN s 0) := e
  unfold caf
  rw [k]
  cases s
  · left; show canonOf _ = 0; decide
  · right; show canonOf _ = _; decide
theorem zero_add' {y : Nat} (h : y = 0 ∨ y = 9223372036854775808) : caf .add 0 y = 0 := by
  rcases h with rfl | rfl <;> decide +kernel
theorem add_zero' {x y : Nat} (hx : x < 18446744073709551616) (fx : x % 9223372036854775808 < 9218868437227405312) (h : y = 0 ∨ y = 9223372036854775808) : caf .add x y = x ∨ (x = 9223372036854775808 ∧ caf .add x y = 0) := by
  by_cases hn : x = 9223372036854775808
  · subst hn
    rcases h with rfl | rfl
    · right; exact ⟨rfl, by decide +kernel⟩
    · left; decide +kernel
  · left
    have k : floatBits .add .f64 x y = some x := addq_zero x y hx fx h hn
    unfold caf
    rw [k]
    show canonOf x = x
    unfold canonOf
    rw [if_neg (by omega)]
theorem sub_zero' {x : Nat} (hx : x < 18446744073709551616) (fx : x % 9223372036854775808 < 9218868437227405312) : caf .sub x 0 = x := by
  have k : floatBits .sub .f64 x 0 = some x := by
    show FloatKind.f64.format.sub x 0 = some x
    have : FloatKind.f64.format.sub x 0 = FloatKind.f64.format.add x 9223372036854775808 := by
      unfold Ieee.Format.sub Ieee.Format.add
      have h1 : (FloatKind.f64.format.read 0).opposite = FloatKind.f64.format.read 9223372036854775808 := by decide +kernel
      first | rw [h1] | simp only [h1] | (show _ = _; rfl)
    rw [this]
    by_cases hn : x = 9223372036854775808
    · subst hn; decide +kernel
    · exact addq_zero x _ hx fx (Or.inr rfl) hn
  unfold caf
  rw [k]
  show canonOf x = x
  unfold canonOf
  rw [if_neg (by omega)]
theorem dot_noughts {f : Nat → Nat} {n : Nat} (hf : ∀ k, k < n → f k < 18446744073709551616 ∧ f k % 9223372036854775808 < 9218868437227405312) : ∀ m, m ≤ n → dotM f (fun _ => 0) m = 0
  | 0, _ => rfl
  | m + 1, h => by
    rw [dotM, dot_noughts hf m (by omega)]
    have h1 := hf m (by omega)
    have e : canonOf (f m) = f m := by unfold canonOf; rw [if_neg (by omega)]
    rw [e, show canonOf 0 = 0 by decide]
    exact zero_add' (mul_zero' h1.1 h1.2)
theorem dot_noughts' {f : Nat → Nat} {n : Nat} (hf : ∀ k, k < n → f k < 18446744073709551616 ∧ f k % 9223372036854775808 < 9218868437227405312) : ∀ m, m ≤ n → dotM (fun _ => 0) f m = 0
  | 0, _ => rfl
  | m + 1, h => by
    rw [dotM, dot_noughts' hf m (by omega)]
    have h1 := hf m (by omega)
    have e : canonOf (f m) = f m := by unfold canonOf; rw [if_neg (by omega)]
    rw [e, show canonOf 0 = 0 by decide]
    exact zero_add' (zero_mul h1.1 h1.2)
end Go.Proofs.Ythakhmnlpmfdgaa

namespace Go.Proofs.Ythakhmnlpmfdgaa
open Go.RowKit Go.IntWalk

def FinN (x : Nat) : Prop := x < 18446744073709551616 ∧ x % 9223372036854775808 < 9218868437227405312
theorem FinN.canon {x : Nat} (h : FinN x) : canonOf x = x := by unfold canonOf; rw [if_neg (by have := h.2; omega)]
theorem FinN.exp {x : Nat} (h : FinN x) : (expOf x == 2047) = false := by
  have h1 : finB x = true := by unfold finB; exact decide_eq_true h.2
  rw [← fin_sgl] at h1
  unfold finM at h1
  simpa using h1
theorem noughts_get (n k : Nat) : (List.replicate n 0).getD k 0 = 0 := by
  rw [List.getD_eq_getElem?_getD, List.getElem?_replicate]
  split <;> rfl
theorem noughts_fn (n : Nat) : (fun k => (List.replicate n 0).getD k 0) = fun _ => 0 := funext (noughts_get n)
section
variable {n x z : Nat} {f : Nat → Nat} {zs : List Nat}
theorem bld_al (hf : ∀ k, k < n * n → FinN (f k)) {j : Nat} (hj : j < n) : alV f (List.replicate n 0) n j = 0 := by
  unfold alV
  rw [noughts_fn]
  exact dot_noughts (n := n) (fun k hk => hf _ (place_lt hk hj)) n (Nat.le_refl _)
theorem bld_dot (hz : ∀ i, i < n → FinN (zs.getD i 0)) : dotW (List.replicate n 0) zs n = 0 := by
  unfold dotW
  rw [noughts_fn]
  exact dot_noughts' (n := n) (fun k hk => hz k hk) n (Nat.le_refl _)
theorem bld_sum (hf : ∀ k, k < n * n → FinN (f k)) (hx : x < 9218868437227405312) : ∀ d, d ≤ n → sumA (alV f (List.replicate n 0) n) x n d = x
  | 0, _ => canon_nn (by omega)
  | d + 1, hd => by
    show caf .add (sumA (alV f (List.replicate n 0) n) x n d) (caf .mul (alV f (List.replicate n 0) n (n - 1 - d)) (alV f (List.replicate n 0) n (n - 1 - d))) = x
    rw [bld_sum hf hx d (by omega), bld_al hf (by omega), show caf .mul 0 0 = 0 by decide +kernel]
    rcases add_zero' (x := x) (y := 0) (by omega) (by rw [Nat.mod_eq_of_lt (by omega)]; exact hx) (Or.inl rfl) with h | ⟨h, _⟩
    · exact h
    · omega
theorem bld_w (hf : ∀ k, k < n * n → FinN (f k)) : ∀ d i, d ≤ n → i < n → wC f (alV f (List.replicate n 0) n) n d i = 0
  | 0, _, _, _ => rfl
  | d + 1, i, hd, hi => by
    show (if n - 1 - d ≤ i then caf .add (wC f (alV f (List.replicate n 0) n) n d i) (caf .mul (canonOf (alV f (List.replicate n 0) n (n - 1 - d))) (canonOf (f (i * n + (n - 1 - d))))) else wC f (alV f (List.replicate n 0) n) n d i) = 0
    rw [bld_w hf d i (by omega) hi, bld_al hf (by omega), show canonOf 0 = 0 by decide]
    have h1 := hf (i * n + (n - 1 - d)) (place_lt hi (by omega))
    rw [h1.canon, zero_add' (zero_mul h1.1 h1.2)]
    split <;> rfl
theorem bld_for (hf : ∀ k, k < n * n → FinN (f k)) (hz : ∀ i, i < n → FinN (zs.getD i 0)) (hx : x < 9218868437227405312) : forE n f (List.replicate n 0) zs x = 0 := by
  unfold forE
  rw [bld_dot hz, bld_sum hf hx n (Nat.le_refl _)]
  have h1 : finF n (alV f (List.replicate n 0) n) = true := by
    rw [finF_iff]
    intro k hk
    rw [bld_al hf hk]
    decide
  have h2 : finB x = true := by unfold finB; rw [Nat.mod_eq_of_lt (by omega)]; exact decide_eq_true hx
  rw [h1, h2, show finB 0 = true by decide]
  rfl
theorem bld_x (hf : ∀ k, k < n * n → FinN (f k)) (hz : ∀ i, i < n → FinN (zs.getD i 0)) (hx : x < 9218868437227405312) (h0 : x ≠ 0) (hzz : FinN z) {i : Nat} (hi : i < n) : xU f (List.replicate n 0) zs n x z i = zs.getD i 0 ∨ (zs.getD i 0 = 9223372036854775808 ∧ xU f (List.replicate n 0) zs n x z i = 0) := by
  unfold xU gU yU sU
  rw [bld_w hf n i (Nat.le_refl _) hi, bld_dot hz, bld_sum hf hx _ (by omega), canon_nn (by omega : x ≤ 9218868437227405312), quo_zero h0 (by omega), show canonOf 0 = 0 by decide, hzz.canon, sub_zero' hzz.1 hzz.2, (hz i hi).canon]
  exact add_zero' (hz i hi).1 (hz i hi).2 (zero_mul hzz.1 hzz.2)
theorem bld_o (hf : ∀ k, k < n * n → FinN (f k)) (hlow : ∀ i j, i < n → j < n → i < j → canonOf (f (i * n + j)) = 0) (hx : x < 9218868437227405312) : (∀ k, k < n * n → oU f (List.replicate n 0) n x k = f k) ∨ (∀ k, k < n * n → k % n ≤ k / n → oU f (List.replicate n 0) n x k = 9221120237041090561) := by
  obtain ⟨q, hq, hql⟩ := nn_root (x := x) (by omega)
  have hs : ∀ j, j ≤ n → sqrW (sU f (List.replicate n 0) n x j) = q := fun j hj => by
    unfold sU sqrW
    rw [bld_sum hf hx _ (by omega), hq]
    rfl
  have hc : ∀ j, j < n → cC (sU f (List.replicate n 0) n x) j = caf .quo q q := fun j hj => by
    unfold cC
    rw [hs j (by omega), hs (j + 1) (by omega), canon_nn hql]
  have ht : ∀ j, j < n → tC (alV f (List.replicate n 0) n) (sU f (List.replicate n 0) n x) j = caf .quo 0 (caf .mul q q) := fun j hj => by
    unfold tC
    rw [hs j (by omega), hs (j + 1) (by omega), canon_nn hql, bld_al hf hj, show canonOf 0 = 0 by decide]
  have ho : ∀ k, k < n * n → k % n ≤ k / n → oU f (List.replicate n 0) n x k = caf .sub (caf .mul (caf .quo q q) (f k)) (caf .mul (caf .quo 0 (caf .mul q q)) 0) := fun k hk hkn => by
    obtain ⟨s1, s2, s3⟩ := split_k hk
    unfold oU oC
    rw [if_pos hkn, hc _ s2, ht _ s2, bld_w hf _ _ (by omega) s1, s3, (hf k hk).canon]
  have hnan : ∀ y, caf .sub 9221120237041090561 y = 9221120237041090561 := fun y => caf_nan ok_s (Or.inl nan_c)
  have hnan2 : ∀ y, caf .sub y 9221120237041090561 = 9221120237041090561 := fun y => caf_nan ok_s (Or.inr nan_c)
  have hmn : ∀ y, caf .mul 9221120237041090561 y = 9221120237041090561 := fun y => caf_nan ok_m (Or.inl nan_c)
  by_cases q0 : q = 0
  · right
    intro k hk hkn
    rw [ho k hk hkn, q0, show caf .quo 0 0 = 9221120237041090561 by decide +kernel, hmn, hnan]
  by_cases qi : q = 9218868437227405312
  · right
    intro k hk hkn
    rw [ho k hk hkn, qi, show caf .quo 9218868437227405312 9218868437227405312 = 9221120237041090561 by decide +kernel, hmn, hnan]
  have hqm : q % 9223372036854775808 < 9218868437227405312 := by rw [Nat.mod_eq_of_lt (by omega)]; omega
  obtain ⟨p, hp, hpl⟩ := nn_sqr (x := q) (by omega) hqm
  have hpc : caf .mul q q = p := by
    unfold caf
    rw [hp]
    exact canon_nn hpl
  by_cases p0 : p = 0
  · right
    intro k hk hkn
    rw [ho k hk hkn, hpc, p0, show caf .quo 0 0 = 9221120237041090561 by decide +kernel, hmn, hnan2]
  · left
    intro k hk
    by_cases hkn : k % n ≤ k / n
    · rw [ho k hk hkn, hpc, quo_self q0 (by omega), quo_zero p0 hpl, show caf .mul 0 0 = 0 by decide +kernel]
      have h1 : caf .mul 4607182418800017408 (f k) = f k := by
        have k2 : floatBits .mul .f64 4607182418800017408 (f k) = some (f k) := mulq_one (f k) (hf k hk).1 (hf k hk).2
        unfold caf
        rw [k2]
        exact (hf k hk).canon
      rw [h1]
      exact sub_zero' (hf k hk).1 (hf k hk).2
    · obtain ⟨s1, s2, s3⟩ := split_k hk
      unfold oU
      rw [if_neg hkn]
      have := hlow _ _ s1 s2 (by omega)
      rw [s3, (hf k hk).canon] at this
      exact this.symm
/-- What an update by a row of noughts tells: nothing, or that something went over. -/
theorem blind_upd (hf : ∀ k, k < n * n → FinN (f k)) (hlow : ∀ i j, i < n → j < n → i < j → canonOf (f (i * n + j)) = 0) (hd : diagB n f = true) (hz : ∀ i, i < n → FinN (zs.getD i 0)) (hx : x < 9218868437227405312) (h0 : x ≠ 0) (hzz : FinN z) :
    updE f (List.replicate n 0) zs n x z = 5 ∨ (updE f (List.replicate n 0) zs n x z = 0 ∧ ∀ k, k < n * n → oU f (List.replicate n 0) n x k = f k) := by
  unfold updE
  rw [if_pos (bld_for hf hz hx)]
  have hxf : finF n (xU f (List.replicate n 0) zs n x z) = true := by
    rw [finF_iff]
    intro i hi
    rcases bld_x hf hz hx h0 hzz hi with h | ⟨_, h⟩
    · rw [h]; exact (hz i hi).exp
    · rw [h]; decide
  rw [hxf, Bool.and_true]
  by_cases hn : n = 0
  · subst hn
    have h1 : finF (0 * 0) (oU f (List.replicate 0 0) 0 x) = true := by rw [finF_iff]; intro k hk; omega
    have h2 : diagB 0 (oU f (List.replicate 0 0) 0 x) = true := by rw [diag_iff]; intro i hi; omega
    rw [h1, h2, Bool.true_and]
    by_cases c : finB (scU f (List.replicate 0 0) zs 0 x z) = true
    · right; rw [if_pos c]; exact ⟨rfl, fun k hk => by omega⟩
    · left; rw [if_neg c]
  rcases bld_o hf hlow hx with h | h
  · have h1 : finF (n * n) (oU f (List.replicate n 0) n x) = true := by
      rw [finF_iff]
      intro k hk
      rw [h k hk]
      exact (hf k hk).exp
    have h2 : diagB n (oU f (List.replicate n 0) n x) = true := by
      rw [diag_iff] at hd ⊢
      intro i hi
      rw [h _ (place_lt hi hi)]
      exact hd i hi
    rw [h1, h2, Bool.true_and]
    by_cases c : finB (scU f (List.replicate n 0) zs n x z) = true
    · right; rw [if_pos c]; exact ⟨rfl, h⟩
    · left; rw [if_neg c]
  · left
    have h1 : finF (n * n) (oU f (List.replicate n 0) n x) = false := by
      cases e : finF (n * n) (oU f (List.replicate n 0) n x) with
      | false => rfl
      | true =>
        rw [finF_iff] at e
        have := e 0 (Nat.mul_pos (by omega) (by omega))
        rw [h 0 (Nat.mul_pos (by omega) (by omega)) (by simp)] at this
        exact absurd this (by decide)
    rw [h1, Bool.false_and]
    rfl
end
end Go.Proofs.Ythakhmnlpmfdgaa

namespace Go.Proofs.Ythakhmnlpmfdgaa
open Go.RowKit Go.IntWalk

/-- What an update by noughts hands back: the same numbers, or nothing and ErrOver. -/
def BlR (E : Int) (n : Nat) (zs xs : List Nat) (x : Nat) (W : World) (ux : Option Addr) (k1 k2 : Nat) (ul : Option Addr) (k3 k4 A : Nat) : Prop :=
  (E = 0 ∧ k1 = n ∧ k3 = n * n ∧ A = x ∧ ∃ (gx gl : Nat) (xo lo : Nat → Nat), ux = some ⟨gx, 0, none⟩ ∧ ul = some ⟨gl, 0, none⟩ ∧ FnM W ux n k2 xo ∧ FnM W ul (n * n) k4 lo ∧ (∀ i, i < n → xo i = zs.getD i 0 ∨ (zs.getD i 0 = 9223372036854775808 ∧ xo i = 0)) ∧ ∀ k, k < n * n → lo k = xs.getD k 0) ∨ (E = 5 ∧ k1 = 0 ∧ ux = none ∧ k2 = 0 ∧ ul = none)
theorem BlR.below {E : Int} {n : Nat} {zs xs : List Nat} {x : Nat} {W W' : World} {ux : Option Addr} {k1 k2 : Nat} {ul : Option Addr} {k3 k4 A : Nat} (h : BlR E n zs xs x W ux k1 k2 ul k3 k4 A) (hb : Below W.heap.size W W') : BlR E n zs xs x W' ux k1 k2 ul k3 k4 A := by
  rcases h with ⟨h1, h2, h3, h4, gx, gl, xo, lo, h5, h6, h7, h8, h9⟩ | h
  · exact Or.inl ⟨h1, h2, h3, h4, gx, gl, xo, lo, h5, h6, h7.below hb, h8.below hb, h9⟩
  · exact Or.inr h
theorem kept_bl (E : Int) (n : Nat) (zs xs : List Nat) (x : Nat) (ux : Option Addr) (k1 k2 : Nat) (ul : Option Addr) (k3 k4 A : Nat) : Kept (fun W => BlR E n zs xs x W ux k1 k2 ul k3 k4 A) := ⟨fun _ _ hb h => h.below hb, fun W b r c r0 c0 s s0 k l k0 l0 hb h => by
  rcases h with ⟨h1, h2, h3, h4, gx, gl, xo, lo, h5, h6, h7, h8, h9⟩ | h
  · exact Or.inl ⟨h1, h2, h3, h4, gx, gl, xo, lo, h5, h6, StoM.fn h7 hb, StoM.fn h8 hb, h9⟩
  · exact Or.inr h⟩
/-- The new lists are no part of the block b. -/
def DjR (ux ul : Option Addr) (b : Nat) : Prop := (∀ g, ux = some ⟨g, 0, none⟩ → g ≠ b) ∧ ∀ g, ul = some ⟨g, 0, none⟩ → g ≠ b
theorem kept_dj (ux ul : Option Addr) (b : Nat) : Kept (fun _ => DjR ux ul b) := ⟨fun _ _ _ h => h, fun _ _ _ _ _ _ _ _ _ _ _ _ _ h => h⟩
theorem BlR.old {E : Int} {n : Nat} {zs xs : List Nat} {x : Nat} {W : World} {ux : Option Addr} {k1 k2 : Nat} {ul : Option Addr} {k3 k4 A : Nat} (h : BlR E n zs xs x W ux k1 k2 ul k3 k4 A) : (∀ g, ux = some ⟨g, 0, none⟩ → g < W.heap.size) ∧ ∀ g, ul = some ⟨g, 0, none⟩ → g < W.heap.size := by
  rcases h with ⟨h1, h2, h3, h4, gx, gl, xo, lo, h5, h6, h7, h8, h9⟩ | ⟨_, _, h1, _, h2⟩
  · refine ⟨fun g e => ?_, fun g e => ?_⟩
    · rcases h7 with ⟨h, _⟩ | ⟨b, off, h, hb, _⟩
      · rw [e] at h; cases h
      · rw [e] at h; cases h; exact hb
    · rcases h8 with ⟨h, _⟩ | ⟨b, off, h, hb, _⟩
      · rw [e] at h; cases h
      · rw [e] at h; cases h; exact hb
  · exact ⟨fun g e => (by rw [h1] at e; cases e), fun g e => (by rw [h2] at e; cases e)⟩
theorem BlR.sto {E : Int} {n : Nat} {zs xs : List Nat} {x : Nat} {W : World} {ux : Option Addr} {k1 k2 : Nat} {ul : Option Addr} {k3 k4 A b : Nat} (h : BlR E n zs xs x W ux k1 k2 ul k3 k4 A) (hd : DjR ux ul b) (p q r s : Value) : BlR E n zs xs x ((((W.setCell ⟨b, 0, none⟩ p).setCell ⟨b, 1, none⟩ q).setCell ⟨b, 2, none⟩ r).setCell ⟨b, 3, none⟩ s) ux k1 k2 ul k3 k4 A := by
  rcases h with ⟨h1, h2, h3, h4, gx, gl, xo, lo, rfl, rfl, h7, h8, h9⟩ | h
  · exact Or.inl ⟨h1, h2, h3, h4, gx, gl, xo, lo, rfl, rfl, h7.rsto (hd.1 _ rfl) _ _ _ _, h8.rsto (hd.2 _ rfl) _ _ _ _, h9⟩
  · exact Or.inr h
theorem noughts_fl {W : World} {g n : Nat} (h : W.heap[g]? = some (.cells (madeCells #[.float .f64 0] n) 28)) (hn : n ≤ 12) : FlM W (some ⟨g, 0, none⟩) n n (List.replicate n 0) := by
  refine ⟨List.length_replicate, fun x hx => ?_, Or.inr ⟨g, 0, rfl, (Array.getElem?_eq_some_iff.1 h).1, Nat.le_refl _, by omega, fun j hj => ?_⟩⟩
  · rw [List.eq_of_mem_replicate hx]; decide
  · rw [Nat.zero_add, noughts_get]
    have hr : W.rowIs g 28 n (fun _ => .float .f64 0) := ⟨_, h, size_madeCells _ _, fun i hi => by simp [madeCells, hi, Nat.mod_one]⟩
    exact hr.cell hj
theorem fin_noughts (n : Nat) : finM (List.replicate n 0) = true := by
  unfold finM
  rw [List.all_eq_true]
  intro x hx
  rw [List.eq_of_mem_replicate hx]
  decide
theorem canon_inv2 {y d : Nat} (h : canonOf y = d) (hd : FinN d) : y = d := by
  unfold canonOf at h
  by_cases q : 9218868437227405312 < y % 9223372036854775808
  · rw [if_pos q] at h
    exact absurd hd.2 (by rw [← h]; decide)
  · rw [if_neg q] at h; exact h
theorem Upd_blind (n m ka kx kh x z : Nat) (xa sa ha : Option Addr) (zs xs : List Nat) (w : World) (hX : FlM w xa n kx zs) (hA : FlM w sa m ka xs) (hH : FlM w ha n kh (List.replicate n 0)) (hb : rootE zs n n n m xs = 0) (hp1 : (FloatKind.f64.format.order x 0 == some .lt) = false) (hp2 : (FloatKind.f64.format.order x 0 == some .eq) = false) (hx : x < 9218868437227405312) (hx0 : x ≠ 0) (hz : FinN z) :
    Calls Try.prog 12 #[.agg #[.slice xa n kx, .int .i64 n, .int .i64 n, .slice sa m ka], .slice ha n kh, .float .f64 x, .float .f64 z] w fun e w' => (∃ ux k1 k2 r1 c1 ul k3 k4 Y A S ug k5 k6 E, e = .returned (.tuple #[.agg #[.slice ux k1 k2, .int .i64 r1, .int .i64 c1, .slice ul k3 k4], .agg #[.float .f64 Y, .float .f64 A, .float .f64 S, .slice ug k5 k6], .int .i64 E]) ∧ BlR E n zs xs x w' ux k1 k2 ul k3 k4 A ∧ (∀ g, ux = some ⟨g, 0, none⟩ → w.heap.size ≤ g) ∧ ∀ g, ul = some ⟨g, 0, none⟩ → w.heap.size ≤ g) ∧ Below w.heap.size w w' := by
  obtain ⟨_, _, hc1, hc2, hlow, hdg⟩ := rootE_zero hb
  have hg := gd_own_r hA hc1
  have hm : m = n * n := hg.2.2.1
  have hF : ∀ k, k < n * n → FinN (xs.getD k 0) := fun k hk => by
    have h1 := hg.2.2.2.2
    rw [hm] at h1
    have h2 := hg.2.2.2.1
    rw [hm] at h2
    have h3 := (finF_iff _ _).1 h1 k hk
    refine ⟨fn_lt h2 k hk, fin_of ?_⟩
    rw [← fin_sgl]
    unfold finM
    simp only [List.all_cons, List.all_nil, Bool.and_true]
    rw [h3]
    rfl
  have hZ : ∀ i, i < n → FinN (zs.getD i 0) := fun i hi => by
    have h1 := fin_get hX.1 hc2
    have h3 := (finF_iff _ _).1 h1 i hi
    refine ⟨fn_lt hX.fn i hi, fin_of ?_⟩
    rw [← fin_sgl]
    unfold finM
    simp only [List.all_cons, List.all_nil, Bool.and_true]
    rw [h3]
    rfl
  have hL : ∀ i j, i < n → j < n → i < j → canonOf (xs.getD (i * n + j) 0) = 0 := by
    have h1 := hlow
    unfold lowT at h1
    rw [Bool.and_eq_true, Int.toNat_natCast] at h1
    exact (low_iff n _).1 h1.2
  have hfx : finM [x] = true := by rw [fin_sgl]; unfold finB; rw [Nat.mod_eq_of_lt (by omega)]; exact decide_eq_true hx
  have hfz : finM [z] = true := by rw [fin_sgl]; unfold finB; exact decide_eq_true hz.2
  refine (Update_fine n m ka kx kh x z xa sa ha zs (List.replicate n 0) xs w hX hA hH ⟨hg.le, hg.1⟩ hb (by omega) hfx hp1 hp2 (by omega) hz.1 hfz (fin_noughts n)).mono ?_
  rintro e w' ⟨hU, hbb⟩
  refine ⟨?_, hbb⟩
  have hbl := blind_upd (n := n) (x := x) (z := z) (f := fun j => xs.getD j 0) (zs := zs) hF hL hdg hZ hx hx0 hz
  rcases hU with ⟨h0, gx, gl, gg, Y, A, S, xo, lo, go, rfl, b1, b2, b3, f1, f2, f3, k1, k2, k3, k4, k5, k6⟩ | ⟨h0, rfl⟩
  · rw [h0] at hbl
    rcases hbl with h | ⟨_, h⟩
    · exact absurd h (by decide)
    refine ⟨_, _, _, _, _, _, _, _, _, _, _, _, _, _, _, rfl, Or.inl ⟨rfl, rfl, rfl, ?_, gx, gl, xo, lo, rfl, rfl, f1, f2, fun i hi => ?_, fun k hk => ?_⟩, fun g e => (by cases e; exact b1), fun g e => (by cases e; exact b2)⟩
    · rw [k5]
      unfold sU
      exact bld_sum hF hx _ (by omega)
    · have h1 := k1 i hi
      rcases bld_x (z := z) hF hZ hx hx0 hz hi with h2 | ⟨h2, h3⟩
      · rw [h2] at h1
        exact Or.inl (canon_inv2 h1 (hZ i hi))
      · rw [h3] at h1
        exact Or.inr ⟨h2, canon_inv2 h1 ⟨by decide, by decide⟩⟩
    · have h1 := k2 k hk
      rw [h k hk] at h1
      exact canon_inv2 h1 (hF k hk)
  · rcases hbl with h | ⟨h, _⟩
    · rw [h]
      exact ⟨_, _, _, _, _, _, _, _, _, _, _, _, _, _, _, rfl, Or.inr ⟨rfl, rfl, rfl, rfl, rfl⟩, fun g e => (by cases e), fun g e => (by cases e)⟩
    · exact absurd h h0
end Go.Proofs.Ythakhmnlpmfdgaa

namespace Go.Proofs.Ythakhmnlpmfdgaa
open Go.RowKit Go.IntWalk

theorem fstoreR (W : World) (a : Addr) (x : Nat) : (store a (.float .f64 x)).run Try.prog W = stored Try.prog W a (.float .f64 x) .plain := run_store _ _ _ _ _ rfl
theorem gt_pos {R : Nat} (hR : R < 18446744073709551616) (h : FloatKind.f64.format.order R 0 = some .gt) (hi : ¬ R % 9223372036854775808 = 9218868437227405312) : R < 9218868437227405312 ∧ R ≠ 0 := by
  have h1 : R % 9223372036854775808 ≤ 9218868437227405312 := by
    apply Classical.byContradiction
    intro c
    rw [order_nan_l R 0 (by omega)] at h
    cases h
  have h2 := gt_key R 0 hR (by decide) h
  unfold keyOf at h2
  have h3 : R < 9223372036854775808 ∧ R ≠ 0 := by
    simp at h2
    constructor <;> (split at h2 <;> omega)
  rw [Nat.mod_eq_of_lt h3.1] at h1 hi
  exact ⟨by omega, h3.2⟩
theorem fin_exp2 {Z : Nat} (hZ : Z < 18446744073709551616) (h : (expOf Z == 2047) = false) : FinN Z := by
  refine ⟨hZ, fin_of ?_⟩
  rw [← fin_sgl]
  unfold finM
  simp only [List.all_cons, List.all_nil, Bool.and_true]
  rw [h]
  rfl
theorem dj_new {ux ul : Option Addr} {W : World} {b : Nat} {o : Obj} (h : (∀ g, ux = some ⟨g, 0, none⟩ → W.heap.size ≤ g) ∧ ∀ g, ul = some ⟨g, 0, none⟩ → W.heap.size ≤ g) (hb : W.heap[b]? = some o) : DjR ux ul b := by
  have := (Array.getElem?_eq_some_iff.1 hb).1
  exact ⟨fun g e => by have := h.1 g e; omega, fun g e => by have := h.2 g e; omega⟩
theorem dj_old {ux ul : Option Addr} {N b : Nat} (h : (∀ g, ux = some ⟨g, 0, none⟩ → g < N) ∧ ∀ g, ul = some ⟨g, 0, none⟩ → g < N) (hb : N = b) : DjR ux ul b := ⟨fun g e => by have := h.1 g e; omega, fun g e => by have := h.2 g e; omega⟩
theorem eq_l {a b : Nat} (h : a = b) (hf : FinN b) : (FloatKind.f64.format.order a b != some .eq) = false := by
  subst h
  rw [order_self a hf.1]
  exact decide_eq_false (by have := hf.2; omega)
theorem eq_x {a b : Nat} (h : a = b ∨ (b = 9223372036854775808 ∧ a = 0)) (hf : FinN b) : (FloatKind.f64.format.order a b != some .eq) = false := by
  rcases h with h | ⟨rfl, rfl⟩
  · exact eq_l h hf
  · decide +kernel
theorem zfin {n : Nat} {r c : Int} {m : Nat} {zs xs : List Nat} {W : World} {s : Option Addr} {k : Nat} (hE : rootE zs n r c m xs = 0) (h : FlM W s n k zs) {i : Nat} (hi : i < n) : FinN (zs.getD i 0) := by
  have h1 := fin_get h.1 (rootE_zero hE).2.2.2.1
  exact fin_exp2 (fn_lt h.fn i hi) ((finF_iff _ _).1 h1 i hi)
theorem xfin {n m : Nat} {W : World} {s : Option Addr} {k : Nat} {f : Nat → Nat} (h : Gd W n n s m k f) (hm : m = n * n) (i : Nat) (hi : i < n * n) : FinN (f i) := by
  have h1 := (finF_iff _ _).1 h.2.2.2.2 i (by omega)
  exact fin_exp2 (fn_lt h.2.2.2.1 i (by omega)) h1
end Go.Proofs.Ythakhmnlpmfdgaa

namespace Go.Proofs.Ythakhmnlpmfdgaa
open Go.RowKit Go.IntWalk

theorem rrow_zero {n : Nat} {xs : List Nat} {d : Int} {x : Nat} (h : rrowE n xs d x = 0) : lsE n xs d = 0 ∧ finM [x] = true ∧ (FloatKind.f64.format.order x 0 == some .lt) = false ∧ (FloatKind.f64.format.order x 0 == some .eq) = false := by
  unfold rrowE at h
  by_cases h1 : lsE n xs d = 0
  · rw [if_pos h1] at h
    by_cases h2 : finM [x] = true
    · rw [if_pos h2] at h
      by_cases h3 : (FloatKind.f64.format.order x 0 == some .lt) = true ∨ (FloatKind.f64.format.order x 0 == some .eq) = true
      · rw [if_pos h3] at h; omega
      · exact ⟨h1, h2, eq_false_of_ne_true fun c => h3 (Or.inl c), eq_false_of_ne_true fun c => h3 (Or.inr c)⟩
    · rw [if_neg h2] at h; omega
  · rw [if_neg h1] at h; exact absurd h h1
theorem ls_zero {n : Nat} {xs : List Nat} {d : Int} (h : lsE n xs d = 0) : (n : Int) = d ∧ finM xs = true := by
  unfold lsE at h
  by_cases h1 : (n : Int) = d
  · rw [if_pos h1] at h
    by_cases h2 : finM xs = true
    · exact ⟨h1, h2⟩
    · rw [if_neg h2] at h; omega
  · rw [if_neg h1] at h; omega
theorem pos_fin {x : Nat} (hx : x < 18446744073709551616) (hf : finM [x] = true) (h1 : (FloatKind.f64.format.order x 0 == some .lt) = false) (h2 : (FloatKind.f64.format.order x 0 == some .eq) = false) : x ≤ 9218868437227405312 := by
  have h3 : FinN x := fin_exp2 hx (by
    have h := hf
    unfold finM at h
    simp only [List.all_cons, List.all_nil, Bool.and_true, Bool.not_eq_true'] at h
    exact h)
  have h4 : FloatKind.f64.format.order x 0 = some .gt := by
    cases h : FloatKind.f64.format.order x 0 with
    | none =>
      have h5 := order_self x hx
      have h6 := order_eq x 0 hx (by decide) (Nat.le_of_lt h3.2) (by decide)
      rw [h] at h6
      cases h6
    | some o =>
      cases o with
      | lt => rw [h] at h1; exact absurd h1 (by decide)
      | eq => rw [h] at h2; exact absurd h2 (by decide)
      | gt => rfl
  exact Nat.le_of_lt (gt_pos hx h4 (by have := h3.2; omega)).1
/-- What Update tells of anything. -/
def updT (zs : List Nat) (k : Nat) (r c : Int) (m : Nat) (xs : List Nat) (q : Nat) (hs : List Nat) (x z : Nat) : Int := if rootE zs k r c m xs = 0 then (if rrowE q hs (k : Int) x = 0 then (if finM [z] = true then updE (fun j => xs.getD j 0) hs zs k x z else 4) else rrowE q hs (k : Int) x) else rootE zs k r c m xs
theorem Update_any (xa : Option Addr) (k kx : Nat) (zs : List Nat) (r c : Int) (sa : Option Addr) (m ka : Nat) (xs : List Nat) (ha : Option Addr) (q kh x z : Nat) (hs : List Nat) (w : World) (hX : FlM w xa k kx zs) (hk : k ≤ 17592186043904) (hA : FlM w sa m ka xs) (hm : m ≤ 17592186043904) (hH : FlM w ha q kh hs) (hq : q ≤ 17592186043904) (hx : x < 18446744073709551616) (hz : z < 18446744073709551616) :
    Calls Try.prog 12 #[.agg #[.slice xa k kx, .int .i64 r, .int .i64 c, .slice sa m ka], .slice ha q kh, .float .f64 x, .float .f64 z] w fun e w' => UpR (updT zs k r c m xs q hs x z) (fun j => xs.getD j 0) hs zs k x z w.heap.size w' e ∧ Below w.heap.size w w' := by
  unfold updT
  by_cases h1 : rootE zs k r c m xs = 0
  · rw [if_pos h1]
    by_cases h2 : rrowE q hs (k : Int) x = 0
    · rw [if_pos h2]
      by_cases h3 : finM [z] = true
      · rw [if_pos h3]
        obtain ⟨p1, p2, p3, p4⟩ := rrow_zero h2
        obtain ⟨p5, p6⟩ := ls_zero p1
        obtain ⟨er, ec, hc, _, _, _⟩ := rootE_zero h1
        subst er
        subst ec
        have p7 : q = k := by omega
        subst p7
        have hg := gd_own_r hA hc
        exact Update_fine q m ka kx kh x z xa sa ha zs hs xs w hX hA hH ⟨by have := hg.2.2.1; have := Nat.mul_le_mul hg.1 hg.1; omega, hg.1⟩ h1 hx p2 p3 p4 (pos_fin hx p2 p3 p4) hz h3 p6
      · rw [if_neg h3]
        exact (Update_no xa k kx zs r c sa m ka xs ha q kh x z 4 w hX hk hA hm h1 (fun W hW => updated_z xa k kx r c sa m ka ha q kh x z hs W (hH.below hW) hq hx hz h2 (eq_false_of_ne_true h3))).mono fun e w' h => ⟨Or.inr ⟨by decide, h.1⟩, h.2⟩
    · rw [if_neg h2]
      exact (Update_no xa k kx zs r c sa m ka xs ha q kh x z _ w hX hk hA hm h1 (fun W hW => updated_row xa k kx r c sa m ka ha q kh x z hs W (hH.below hW) hq hx h2)).mono fun e w' h => ⟨Or.inr ⟨h2, h.1⟩, h.2⟩
  · rw [if_neg h1]
    exact (Update_bad xa k kx zs r c sa m ka xs ha q kh x z w hX hk hA hm h1).mono fun e w' h => ⟨Or.inr ⟨h1, h.1⟩, h.2⟩
end Go.Proofs.Ythakhmnlpmfdgaa
