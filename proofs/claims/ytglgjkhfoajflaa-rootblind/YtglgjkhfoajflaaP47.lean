
/- A row of noughts: what an update by it tells. Plain. -/
import Derived.Test.YtglgjkhfoajflaaP42
import Derived.Test.YtglgjkhfoajflaaP27
namespace Go.Proofs.Ytglgjkhfoajflaa
open Go.RowKit Go.IntWalk

theorem caf_nan {op : BinOp} (hop : op = .add ∨ op = .sub ∨ op = .mul) {x y : Nat} (h : NaNW x ∨ NaNW y) : caf op x y = 9221120237041090561 := by
  unfold caf
  rw [fb_nan hop h]
  rfl
theorem quo_nan {x y : Nat} (h : NaNW x ∨ NaNW y) : caf .quo x y = 9221120237041090561 := by
  unfold caf
  rw [div_nan h]
  rfl
theorem nan_c : NaNW 9221120237041090561 := ⟨by decide, by decide⟩
theorem one_rnd : rndM 1 0 = 4607182418800017408 := by decide +kernel
theorem quo_self {q : Nat} (h0 : q ≠ 0) (h1 : q < 9218868437227405312) : caf .quo q q = 4607182418800017408 := by
  have e : q % 9223372036854775808 = q := Nat.mod_eq_of_lt (by omega)
  obtain ⟨m, p, e1, e2⟩ := read_fin q (by omega) (by omega)
  have hm : m ≠ 0 := fun h => by
    rw [h, Nat.zero_mul, e] at e2
    exact h0 (by
      have := nv_lt (show 0 < q by omega)
      omega)
  have key : FloatKind.f64.format.div q q = some 4607182418800017408 := by
    unfold Ieee.Format.div
    rw [e1]
    simp only [Ieee.Datum.quotient]
    rw [if_neg hm]
    simp only [Option.map_some, Bool.xor_self, Nat.add_sub_cancel_right]
    refine congrArg some ?_
    obtain ⟨D, hD⟩ : ∃ D, FloatKind.f64.format.fractionBits + 2 = D := ⟨_, rfl⟩
    rw [hD]
    have e3 : ∀ D : Nat, rndM (2 * 2 ^ D) (((p : Int) - 1074) - ((p : Int) - 1074) - (D : Int) - 1) = 4607182418800017408 := fun D => by
      have := rndM_sc 1 (D + 1) 0
      rw [one_rnd] at this
      rw [← this]
      have h1 : 1 * 2 ^ (D + 1) = 2 * 2 ^ D := by rw [Nat.pow_succ, Nat.one_mul, Nat.mul_comm]
      have h2 : (0 : Int) - ((D + 1 : Nat) : Int) = ((p : Int) - 1074) - ((p : Int) - 1074) - (D : Int) - 1 := by omega
      rw [h1, h2]
    have e4 : m <<< D / m = 2 ^ D := by rw [Nat.shiftLeft_eq]; exact Nat.mul_div_cancel_left _ (by omega)
    have e5 : m <<< D % m = 0 := by rw [Nat.shiftLeft_eq]; exact Nat.mul_mod_right _ _
    rw [e4, e5]
    show FloatKind.f64.format.nearest false (2 * 2 ^ D + 0) _ = _
    rw [(near_rnd _ _ _).1, Nat.add_zero, e3]
    rfl
  have k2 : floatBits .quo .f64 q q = some 4607182418800017408 := key
  unfold caf
  rw [k2]
  show canonOf 4607182418800017408 = _
  decide
theorem quo_zero {p : Nat} (h0 : p ≠ 0) (h1 : p ≤ 9218868437227405312) : caf .quo 0 p = 0 := by
  have hz : FloatKind.f64.format.read 0 = .number false 0 (-1074) := by decide +kernel
  have key : FloatKind.f64.format.div 0 p = some 0 := by
    unfold Ieee.Format.div
    rw [hz]
    rcases nn_read h1 with ⟨m, e, e1⟩ | e1
    · rw [e1]
      simp only [Ieee.Datum.quotient]
      have hm : m ≠ 0 := fun h => by
        rcases Nat.lt_or_ge p 9218868437227405312 with c | c
        · obtain ⟨m', p', e2, e3⟩ := read_fin p (by omega) (by rw [Nat.mod_eq_of_lt (by omega)]; exact c)
          rw [e1] at e2
          injection e2 with _ a2 _
          rw [← a2, h, Nat.zero_mul, Nat.mod_eq_of_lt (by omega)] at e3
          have := nv_lt (show 0 < p by omega)
          omega
        · have := read_inf p (by omega) (by rw [Nat.mod_eq_of_lt (by omega)]; omega)
          rw [e1] at this
          cases this
      rw [if_neg hm]
      simp only [Option.map_some, Bool.xor_self, Nat.zero_shiftLeft, Nat.zero_div, Nat.zero_mod]
      refine congrArg some ?_
      show FloatKind.f64.format.nearest false _ _ = _
      rw [(near_rnd _ _ _).1]
      show signN false (rndM 0 _) = 0
      unfold rndM
      first | done | rfl
    · rw [e1]
      simp only [Ieee.Datum.quotient]
      show some (FloatKind.f64.format.nearest false 0 _) = _
      rw [(near_rnd _ _ _).1]
      unfold rndM
      first | done | rfl
  have k2 : floatBits .quo .f64 0 p = some 0 := key
  unfold caf
  rw [k2]
  show canonOf 0 = 0
  decide
theorem zero_mul {x : Nat} (hx : x < 18446744073709551616) (fx : x % 9223372036854775808 < 9218868437227405312) : caf .mul 0 x = 0 ∨ caf .mul 0 x = 9223372036854775808 := by
  obtain ⟨z, hz, e⟩ := mulq_zero x hx fx
  have k : floatBits .mul .f64 0 x = some z := e
  unfold caf
  rw [k]
  rcases hz with rfl | rfl
  · left; show canonOf 0 = 0; decide
  · right; show canonOf 9223372036854775808 = _; decide
theorem mul_zero' {x : Nat} (hx : x < 18446744073709551616) (fx : x % 9223372036854775808 < 9218868437227405312) : caf .mul x 0 = 0 ∨ caf .mul x 0 = 9223372036854775808 := by
  obtain ⟨s, e, _⟩ := mul_rnd x 0 hx (by decide) fx (by decide)
  rw [svq_of 0 (by decide), Int.mul_zero, show rndM (0 : Int).natAbs (-2148) = 0 by unfold rndM; rfl] at e
  have k : floatBits .mul .f64 x 0 = some (signN s 0) := e
  unfold caf
  rw [k]
  cases s
  · left; show canonOf _ = 0; decide
  · right; show canonOf _ = _; decide
theorem zero_add' {y : Nat} (h : y = 0 ∨ y = 9223372036854775808) : caf .add 0 y = 0 := by
  rcases h with rfl | rfl <;> decide +kernel
theorem add_zero' {x y : Nat} (hx : x < 18446744073709551616) (fx : x % 9223372036854775808 < 9218868437227405312) (h : y = 0 ∨ y = 9223372036854775808) : caf .add x y = x ∨ (x = 9223372036854775808 ∧ caf .add x y = 0) := by
  by_cases hn : x = 9223372036854775808
  · subst hn
    rcases h with rfl | rfl
    · right; exact ⟨rfl, by decide +kernel⟩
    · left; decide +kernel
  · left
    have k : floatBits .add .f64 x y = some x := addq_zero x y hx fx h hn
    unfold caf
    rw [k]
    show canonOf x = x
    unfold canonOf
    rw [if_neg (by omega)]
theorem sub_zero' {x : Nat} (hx : x < 18446744073709551616) (fx : x % 9223372036854775808 < 9218868437227405312) : caf .sub x 0 = x := by
  have k : floatBits .sub .f64 x 0 = some x := by
    show FloatKind.f64.format.sub x 0 = some x
    have : FloatKind.f64.format.sub x 0 = FloatKind.f64.format.add x 9223372036854775808 := by
      unfold Ieee.Format.sub Ieee.Format.add
      have h1 : (FloatKind.f64.format.read 0).opposite = FloatKind.f64.format.read 9223372036854775808 := by decide +kernel
      first | rw [h1] | simp only [h1] | (show _ = _; rfl)
    rw [this]
    by_cases hn : x = 9223372036854775808
    · subst hn; decide +kernel
    · exact addq_zero x _ hx fx (Or.inr rfl) hn
  unfold caf
  rw [k]
  show canonOf x = x
  unfold canonOf
  rw [if_neg (by omega)]
theorem dot_noughts {f : Nat → Nat} {n : Nat} (hf : ∀ k, k < n → f k < 18446744073709551616 ∧ f k % 9223372036854775808 < 9218868437227405312) : ∀ m, m ≤ n → dotM f (fun _ => 0) m = 0
  | 0, _ => rfl
  | m + 1, h => by
    rw [dotM, dot_noughts hf m (by omega)]
    have h1 := hf m (by omega)
    have e : canonOf (f m) = f m := by unfold canonOf; rw [if_neg (by omega)]
    rw [e, show canonOf 0 = 0 by decide]
    exact zero_add' (mul_zero' h1.1 h1.2)
theorem dot_noughts' {f : Nat → Nat} {n : Nat} (hf : ∀ k, k < n → f k < 18446744073709551616 ∧ f k % 9223372036854775808 < 9218868437227405312) : ∀ m, m ≤ n → dotM (fun _ => 0) f m = 0
  | 0, _ => rfl
  | m + 1, h => by
    rw [dotM, dot_noughts' hf m (by omega)]
    have h1 := hf m (by omega)
    have e : canonOf (f m) = f m := by unfold canonOf; rw [if_neg (by omega)]
    rw [e, show canonOf 0 = 0 by decide]
    exact zero_add' (zero_mul h1.1 h1.2)
end Go.Proofs.Ytglgjkhfoajflaa

namespace Go.Proofs.Ytglgjkhfoajflaa
open Go.RowKit Go.IntWalk

def FinN (x : Nat) : Prop := x < 18446744073709551616 ∧ x % 9223372036854775808 < 9218868437227405312
theorem FinN.canon {x : Nat} (h : FinN x) : canonOf x = x := by unfold canonOf; rw [if_neg (by have := h.2; omega)]
theorem FinN.exp {x : Nat} (h : FinN x) : (expOf x == 2047) = false := by
  have h1 : finB x = true := by unfold finB; exact decide_eq_true h.2
  rw [← fin_sgl] at h1
  unfold finM at h1
  simpa using h1
theorem noughts_get (n k : Nat) : (List.replicate n 0).getD k 0 = 0 := by
  rw [List.getD_eq_getElem?_getD, List.getElem?_replicate]
  split <;> rfl
theorem noughts_fn (n : Nat) : (fun k => (List.replicate n 0).getD k 0) = fun _ => 0 := funext (noughts_get n)
section
variable {n x z : Nat} {f : Nat → Nat} {zs : List Nat}
theorem bld_al (hf : ∀ k, k < n * n → FinN (f k)) {j : Nat} (hj : j < n) : alV f (List.replicate n 0) n j = 0 := by
  unfold alV
  rw [noughts_fn]
  exact dot_noughts (n := n) (fun k hk => hf _ (place_lt hk hj)) n (Nat.le_refl _)
theorem bld_dot (hz : ∀ i, i < n → FinN (zs.getD i 0)) : dotW (List.replicate n 0) zs n = 0 := by
  unfold dotW
  rw [noughts_fn]
  exact dot_noughts' (n := n) (fun k hk => hz k hk) n (Nat.le_refl _)
theorem bld_sum (hf : ∀ k, k < n * n → FinN (f k)) (hx : x < 9218868437227405312) : ∀ d, d ≤ n → sumA (alV f (List.replicate n 0) n) x n d = x
  | 0, _ => canon_nn (by omega)
  | d + 1, hd => by
    show caf .add (sumA (alV f (List.replicate n 0) n) x n d) (caf .mul (alV f (List.replicate n 0) n (n - 1 - d)) (alV f (List.replicate n 0) n (n - 1 - d))) = x
    rw [bld_sum hf hx d (by omega), bld_al hf (by omega), show caf .mul 0 0 = 0 by decide +kernel]
    rcases add_zero' (x := x) (y := 0) (by omega) (by rw [Nat.mod_eq_of_lt (by omega)]; exact hx) (Or.inl rfl) with h | ⟨h, _⟩
    · exact h
    · omega
theorem bld_w (hf : ∀ k, k < n * n → FinN (f k)) : ∀ d i, d ≤ n → i < n → wC f (alV f (List.replicate n 0) n) n d i = 0
  | 0, _, _, _ => rfl
  | d + 1, i, hd, hi => by
    show (if n - 1 - d ≤ i then caf .add (wC f (alV f (List.replicate n 0) n) n d i) (caf .mul (canonOf (alV f (List.replicate n 0) n (n - 1 - d))) (canonOf (f (i * n + (n - 1 - d))))) else wC f (alV f (List.replicate n 0) n) n d i) = 0
    rw [bld_w hf d i (by omega) hi, bld_al hf (by omega), show canonOf 0 = 0 by decide]
    have h1 := hf (i * n + (n - 1 - d)) (place_lt hi (by omega))
    rw [h1.canon, zero_add' (zero_mul h1.1 h1.2)]
    split <;> rfl
theorem bld_for (hf : ∀ k, k < n * n → FinN (f k)) (hz : ∀ i, i < n → FinN (zs.getD i 0)) (hx : x < 9218868437227405312) : forE n f (List.replicate n 0) zs x = 0 := by
  unfold forE
  rw [bld_dot hz, bld_sum hf hx n (Nat.le_refl _)]
  have h1 : finF n (alV f (List.replicate n 0) n) = true := by
    rw [finF_iff]
    intro k hk
    rw [bld_al hf hk]
    decide
  have h2 : finB x = true := by unfold finB; rw [Nat.mod_eq_of_lt (by omega)]; exact decide_eq_true hx
  rw [h1, h2, show finB 0 = true by decide]
  rfl
theorem bld_x (hf : ∀ k, k < n * n → FinN (f k)) (hz : ∀ i, i < n → FinN (zs.getD i 0)) (hx : x < 9218868437227405312) (h0 : x ≠ 0) (hzz : FinN z) {i : Nat} (hi : i < n) : xU f (List.replicate n 0) zs n x z i = zs.getD i 0 ∨ (zs.getD i 0 = 9223372036854775808 ∧ xU f (List.replicate n 0) zs n x z i = 0) := by
  unfold xU gU yU sU
  rw [bld_w hf n i (Nat.le_refl _) hi, bld_dot hz, bld_sum hf hx _ (by omega), canon_nn (by omega : x ≤ 9218868437227405312), quo_zero h0 (by omega), show canonOf 0 = 0 by decide, hzz.canon, sub_zero' hzz.1 hzz.2, (hz i hi).canon]
  exact add_zero' (hz i hi).1 (hz i hi).2 (zero_mul hzz.1 hzz.2)
theorem bld_o (hf : ∀ k, k < n * n → FinN (f k)) (hlow : ∀ i j, i < n → j < n → i < j → canonOf (f (i * n + j)) = 0) (hx : x < 9218868437227405312) : (∀ k, k < n * n → oU f (List.replicate n 0) n x k = f k) ∨ (∀ k, k < n * n → k % n ≤ k / n → oU f (List.replicate n 0) n x k = 9221120237041090561) := by
  obtain ⟨q, hq, hql⟩ := nn_root (x := x) (by omega)
  have hs : ∀ j, j ≤ n → sqrW (sU f (List.replicate n 0) n x j) = q := fun j hj => by
    unfold sU sqrW
    rw [bld_sum hf hx _ (by omega), hq]
    rfl
  have hc : ∀ j, j < n → cC (sU f (List.replicate n 0) n x) j = caf .quo q q := fun j hj => by
    unfold cC
    rw [hs j (by omega), hs (j + 1) (by omega), canon_nn hql]
  have ht : ∀ j, j < n → tC (alV f (List.replicate n 0) n) (sU f (List.replicate n 0) n x) j = caf .quo 0 (caf .mul q q) := fun j hj => by
    unfold tC
    rw [hs j (by omega), hs (j + 1) (by omega), canon_nn hql, bld_al hf hj, show canonOf 0 = 0 by decide]
  have ho : ∀ k, k < n * n → k % n ≤ k / n → oU f (List.replicate n 0) n x k = caf .sub (caf .mul (caf .quo q q) (f k)) (caf .mul (caf .quo 0 (caf .mul q q)) 0) := fun k hk hkn => by
    obtain ⟨s1, s2, s3⟩ := split_k hk
    unfold oU oC
    rw [if_pos hkn, hc _ s2, ht _ s2, bld_w hf _ _ (by omega) s1, s3, (hf k hk).canon]
  have hnan : ∀ y, caf .sub 9221120237041090561 y = 9221120237041090561 := fun y => caf_nan ok_s (Or.inl nan_c)
  have hnan2 : ∀ y, caf .sub y 9221120237041090561 = 9221120237041090561 := fun y => caf_nan ok_s (Or.inr nan_c)
  have hmn : ∀ y, caf .mul 9221120237041090561 y = 9221120237041090561 := fun y => caf_nan ok_m (Or.inl nan_c)
  by_cases q0 : q = 0
  · right
    intro k hk hkn
    rw [ho k hk hkn, q0, show caf .quo 0 0 = 9221120237041090561 by decide +kernel, hmn, hnan]
  by_cases qi : q = 9218868437227405312
  · right
    intro k hk hkn
    rw [ho k hk hkn, qi, show caf .quo 9218868437227405312 9218868437227405312 = 9221120237041090561 by decide +kernel, hmn, hnan]
  have hqm : q % 9223372036854775808 < 9218868437227405312 := by rw [Nat.mod_eq_of_lt (by omega)]; omega
  obtain ⟨p, hp, hpl⟩ := nn_sqr (x := q) (by omega) hqm
  have hpc : caf .mul q q = p := by
    unfold caf
    rw [hp]
    exact canon_nn hpl
  by_cases p0 : p = 0
  · right
    intro k hk hkn
    rw [ho k hk hkn, hpc, p0, show caf .quo 0 0 = 9221120237041090561 by decide +kernel, hmn, hnan2]
  · left
    intro k hk
    by_cases hkn : k % n ≤ k / n
    · rw [ho k hk hkn, hpc, quo_self q0 (by omega), quo_zero p0 hpl, show caf .mul 0 0 = 0 by decide +kernel]
      have h1 : caf .mul 4607182418800017408 (f k) = f k := by
        have k2 : floatBits .mul .f64 4607182418800017408 (f k) = some (f k) := mulq_one (f k) (hf k hk).1 (hf k hk).2
        unfold caf
        rw [k2]
        exact (hf k hk).canon
      rw [h1]
      exact sub_zero' (hf k hk).1 (hf k hk).2
    · obtain ⟨s1, s2, s3⟩ := split_k hk
      unfold oU
      rw [if_neg hkn]
      have := hlow _ _ s1 s2 (by omega)
      rw [s3, (hf k hk).canon] at this
      exact this.symm
/-- What an update by a row of noughts tells: nothing, or that something went over. -/
theorem blind_upd (hf : ∀ k, k < n * n → FinN (f k)) (hlow : ∀ i j, i < n → j < n → i < j → canonOf (f (i * n + j)) = 0) (hd : diagB n f = true) (hz : ∀ i, i < n → FinN (zs.getD i 0)) (hx : x < 9218868437227405312) (h0 : x ≠ 0) (hzz : FinN z) :
    updE f (List.replicate n 0) zs n x z = 5 ∨ (updE f (List.replicate n 0) zs n x z = 0 ∧ ∀ k, k < n * n → oU f (List.replicate n 0) n x k = f k) := by
  unfold updE
  rw [if_pos (bld_for hf hz hx)]
  have hxf : finF n (xU f (List.replicate n 0) zs n x z) = true := by
    rw [finF_iff]
    intro i hi
    rcases bld_x hf hz hx h0 hzz hi with h | ⟨_, h⟩
    · rw [h]; exact (hz i hi).exp
    · rw [h]; decide
  rw [hxf, Bool.and_true]
  by_cases hn : n = 0
  · subst hn
    have h1 : finF (0 * 0) (oU f (List.replicate 0 0) 0 x) = true := by rw [finF_iff]; intro k hk; omega
    have h2 : diagB 0 (oU f (List.replicate 0 0) 0 x) = true := by rw [diag_iff]; intro i hi; omega
    rw [h1, h2, Bool.true_and]
    by_cases c : finB (scU f (List.replicate 0 0) zs 0 x z) = true
    · right; rw [if_pos c]; exact ⟨rfl, fun k hk => by omega⟩
    · left; rw [if_neg c]
  rcases bld_o hf hlow hx with h | h
  · have h1 : finF (n * n) (oU f (List.replicate n 0) n x) = true := by
      rw [finF_iff]
      intro k hk
      rw [h k hk]
      exact (hf k hk).exp
    have h2 : diagB n (oU f (List.replicate n 0) n x) = true := by
      rw [diag_iff] at hd ⊢
      intro i hi
      rw [h _ (place_lt hi hi)]
      exact hd i hi
    rw [h1, h2, Bool.true_and]
    by_cases c : finB (scU f (List.replicate n 0) zs n x z) = true
    · right; rw [if_pos c]; exact ⟨rfl, h⟩
    · left; rw [if_neg c]
  · left
    have h1 : finF (n * n) (oU f (List.replicate n 0) n x) = false := by
      cases e : finF (n * n) (oU f (List.replicate n 0) n x) with
      | false => rfl
      | true =>
        rw [finF_iff] at e
        have := e 0 (Nat.mul_pos (by omega) (by omega))
        rw [h 0 (Nat.mul_pos (by omega) (by omega)) (by simp)] at this
        exact absurd this (by decide)
    rw [h1, Bool.false_and]
    rfl
end
end Go.Proofs.Ytglgjkhfoajflaa
