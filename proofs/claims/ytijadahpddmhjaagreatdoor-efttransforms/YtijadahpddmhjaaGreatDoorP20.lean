
/- Two and Quick lose nothing: numbers of an amount of at most 2^1022, in plain arithmetic. No program is spoken of. -/
import Derived.Test.YtijadahpddmhjaaGreatDoorP19
namespace Go.Proofs.YtijadahpddmhjaaGreatDoor
open Go Go.RowKit Go.IntWalk

def kG : Nat := 2044
theorem kG_is : kG = 2044 := rfl
theorem pow_more (n : Nat) : 2 ^ (n + 52) = 4503599627370496 * 2 ^ n ∧ 2 ^ (n + 53) = 9007199254740992 * 2 ^ n := by
  have e1 : (2 : Nat) ^ 52 = 4503599627370496 := by decide
  have e2 : (2 : Nat) ^ 53 = 9007199254740992 := by decide
  rw [Nat.pow_add, Nat.pow_add, e1, e2, Nat.mul_comm, Nat.mul_comm (2 ^ n)]
  exact ⟨rfl, rfl⟩
/-- The error of what isn't above 2^53 M is at most M. -/
theorem rz_small (v : Int) (n : Nat) (h : v.natAbs ≤ 9007199254740992 * 2 ^ n) : (rz v - v).natAbs ≤ 2 ^ n := by
  have he := rz_err v
  have hd : Dz v ≤ n + 1 := by
    refine dN_le _ _ ?_
    rw [Nat.pow_succ]
    have := Nat.two_pow_pos n
    omega
  have hp : 2 ^ Dz v ≤ 2 ^ (n + 1) := Nat.pow_le_pow_right (by decide) hd
  rw [Nat.pow_succ] at hp
  omega
theorem fin_add (x y : Nat) (a b : Int) (hx : Fin64 x a) (hy : Fin64 y b) (h : (a + b).natAbs ≤ 9007199254740992 * 2 ^ kG) : ∃ r, FloatKind.f64.format.add x y = some r ∧ Fin64 r (rz (a + b)) ∧ (rz (a + b)).natAbs ≤ 9007199254740992 * 2 ^ kG := by
  obtain ⟨x1, x2, rfl⟩ := hx
  obtain ⟨y1, y2, rfl⟩ := hy
  obtain ⟨s, e, hs⟩ := add_val x y x1 y1 x2 y2
  have hk := kG_is
  rw [← (pow_more kG).2] at h ⊢
  obtain ⟨f1, f2⟩ := fin_rz s _ (kG + 53) (by omega) h hs
  exact ⟨_, e, f1, f2⟩
theorem fin_sub (x y : Nat) (a b : Int) (hx : Fin64 x a) (hy : Fin64 y b) (h : (a - b).natAbs ≤ 9007199254740992 * 2 ^ kG) : ∃ r, FloatKind.f64.format.sub x y = some r ∧ Fin64 r (rz (a - b)) ∧ (rz (a - b)).natAbs ≤ 9007199254740992 * 2 ^ kG := by
  obtain ⟨x1, x2, rfl⟩ := hx
  obtain ⟨y1, y2, rfl⟩ := hy
  obtain ⟨s, e, hs⟩ := sub_val x y x1 y1 x2 y2
  have hk := kG_is
  rw [← (pow_more kG).2] at h ⊢
  obtain ⟨f1, f2⟩ := fin_rz s _ (kG + 53) (by omega) h hs
  exact ⟨_, e, f1, f2⟩
/-- Knuth's sum of two, by the machine. -/
theorem two_vals (x y : Nat) (a b : Int) (hx : Fin64 x a) (hy : Fin64 y b) (ha : a.natAbs ≤ 4503599627370496 * 2 ^ kG) (hb : b.natAbs ≤ 4503599627370496 * 2 ^ kG) :
    ∃ s t e1 e2 e3 e, FloatKind.f64.format.add x y = some s ∧ FloatKind.f64.format.sub s x = some t ∧ FloatKind.f64.format.sub s t = some e1 ∧ FloatKind.f64.format.sub x e1 = some e2 ∧ FloatKind.f64.format.sub y t = some e3 ∧ FloatKind.f64.format.add e2 e3 = some e ∧ Fin64 s (rz (a + b)) ∧ Fin64 e (a + b - rz (a + b)) := by
  have fa : Fz a := by obtain ⟨_, _, rfl⟩ := hx; exact Fz_sv x
  have fb : Fz b := by obtain ⟨_, _, rfl⟩ := hy; exact Fz_sv y
  obtain ⟨t1, t2⟩ := two_sum a b fa fb
  obtain ⟨M, hM⟩ : ∃ M, 2 ^ kG = M := ⟨_, rfl⟩
  rw [hM] at ha hb
  clear fa fb t2
  obtain ⟨s, hs1, hs2, _⟩ := fin_add x y a b hx hy (by rw [hM]; omega)
  have d1 := rz_small (a + b) kG (by rw [hM]; omega)
  rw [hM] at d1
  obtain ⟨S, hS⟩ : ∃ S, rz (a + b) = S := ⟨_, rfl⟩
  rw [hS] at hs2 d1 t1
  rw [hS]
  obtain ⟨t, ht1, ht2, _⟩ := fin_sub s x S a hs2 hx (by rw [hM]; omega)
  have d2 := rz_small (S - a) kG (by rw [hM]; omega)
  rw [hM] at d2
  obtain ⟨T, hT⟩ : ∃ T, rz (S - a) = T := ⟨_, rfl⟩
  rw [hT] at ht2 d2 t1
  obtain ⟨u, hu1, hu2, _⟩ := fin_sub s t S T hs2 ht2 (by rw [hM]; omega)
  have d3 := rz_small (S - T) kG (by rw [hM]; omega)
  rw [hM] at d3
  obtain ⟨U, hU⟩ : ∃ U, rz (S - T) = U := ⟨_, rfl⟩
  rw [hU] at hu2 d3 t1
  have f1 : (a - U).natAbs ≤ 2 * M := by omega
  have f2 : (b - T).natAbs ≤ 2 * M := by omega
  clear d1 d2 d3 ha hb hS hT hU
  obtain ⟨v, hv1, hv2, _⟩ := fin_sub x u a U hx hu2 (by rw [hM]; omega)
  obtain ⟨q, hq1, hq2, _⟩ := fin_sub y t b T hy ht2 (by rw [hM]; omega)
  have d4 := rz_small (a - U) kG (by rw [hM]; omega)
  have d5 := rz_small (b - T) kG (by rw [hM]; omega)
  rw [hM] at d4 d5
  obtain ⟨V, hV⟩ : ∃ V, rz (a - U) = V := ⟨_, rfl⟩
  obtain ⟨Q, hQ⟩ : ∃ Q, rz (b - T) = Q := ⟨_, rfl⟩
  rw [hV] at hv2 d4 t1
  rw [hQ] at hq2 d5 t1
  obtain ⟨e, he1, he2, _⟩ := fin_add v q V Q hv2 hq2 (by rw [hM]; omega)
  rw [t1] at he2
  exact ⟨s, t, u, v, q, e, hs1, ht1, hu1, hv1, hq1, he1, hs2, he2⟩
/-- Dekker's quick one. -/
theorem quick_vals (x y : Nat) (a b : Int) (hx : Fin64 x a) (hy : Fin64 y b) (ha : a.natAbs ≤ 4503599627370496 * 2 ^ kG) (hb : b.natAbs ≤ 4503599627370496 * 2 ^ kG) (hab : a = 0 ∨ b.natAbs ≤ a.natAbs) :
    ∃ s t e, FloatKind.f64.format.add x y = some s ∧ FloatKind.f64.format.sub s x = some t ∧ FloatKind.f64.format.sub y t = some e ∧ Fin64 s (rz (a + b)) ∧ Fin64 e (a + b - rz (a + b)) := by
  have fa : Fz a := by obtain ⟨_, _, rfl⟩ := hx; exact Fz_sv x
  have fb : Fz b := by obtain ⟨_, _, rfl⟩ := hy; exact Fz_sv y
  obtain ⟨M, hM⟩ : ∃ M, 2 ^ kG = M := ⟨_, rfl⟩
  rw [hM] at ha hb
  obtain ⟨s, hs1, hs2, _⟩ := fin_add x y a b hx hy (by rw [hM]; omega)
  have d1 := rz_small (a + b) kG (by rw [hM]; omega)
  rw [hM] at d1
  have hF : Fz (rz (a + b) - a) := by
    rcases hab with h | h
    · rw [h, Int.zero_add, rz_exact fb, Int.sub_zero]; exact fb
    · refine fast_F a b fa fb (dN_le _ _ ?_)
      have := dN_hi a.natAbs
      show b.natAbs < 9007199254740992 * 2 ^ dN a.natAbs
      omega
  have hE := err_F a b fa fb
  clear fa fb hab
  obtain ⟨S, hS⟩ : ∃ S, rz (a + b) = S := ⟨_, rfl⟩
  rw [hS] at hs2 d1 hF hE
  rw [hS]
  obtain ⟨t, ht1, ht2, _⟩ := fin_sub s x S a hs2 hx (by rw [hM]; omega)
  rw [rz_exact hF] at ht2
  have e1 : b - (S - a) = a + b - S := by omega
  obtain ⟨e, he1, he2, _⟩ := fin_sub y t b (S - a) hy ht2 (by rw [hM]; omega)
  rw [e1, rz_exact hE] at he2
  exact ⟨s, t, e, hs1, ht1, he1, hs2, he2⟩
end Go.Proofs.YtijadahpddmhjaaGreatDoor

namespace Go.Proofs.YtijadahpddmhjaaGreatDoor
open Go Go.RowKit Go.IntWalk

theorem gap_up {x : Int} {Q k : Nat} (hd : (Q : Int) ∣ x) (h : k * Q < x.natAbs) : k * Q + Q ≤ x.natAbs := by
  obtain ⟨m, hm⟩ := Int.ofNat_dvd_left.1 hd
  rw [hm, Nat.mul_comm Q m] at h ⊢
  have h1 : k < m := Nat.lt_of_mul_lt_mul_right h
  have := Nat.mul_le_mul_right Q h1
  rw [Nat.succ_mul] at this
  exact this
theorem gap_dn {x : Int} {Q k : Nat} (hd : (Q : Int) ∣ x) (h : x.natAbs < k * Q) : x.natAbs + Q ≤ k * Q := by
  obtain ⟨m, hm⟩ := Int.ofNat_dvd_left.1 hd
  rw [hm, Nat.mul_comm Q m] at h ⊢
  have h1 : m < k := Nat.lt_of_mul_lt_mul_right h
  have := Nat.mul_le_mul_right Q h1
  rw [Nat.succ_mul] at this
  exact this
theorem gap_zero {x : Int} {Q : Nat} (hd : (Q : Int) ∣ x) (h : x.natAbs < Q) : x = 0 := by
  obtain ⟨m, hm⟩ := Int.ofNat_dvd_left.1 hd
  match m, hm with
  | 0, hm => rw [Nat.mul_zero] at hm; omega
  | m + 1, hm =>
    rw [Nat.mul_succ] at hm
    have := Nat.zero_le (Q * m)
    omega
/-- A number and its upper half, by the places of their digits. -/
structure HalfN (a h : Int) (n d : Nat) : Prop where
  hd : ((2 ^ (n + 1) : Nat) : Int) ∣ h
  hb : h.natAbs ≤ 134217728 * 2 ^ n
  lb : (a - h).natAbs ≤ 2 ^ n
  ad : ((2 ^ d : Nat) : Int) ∣ a
  nd : n ≤ d + 26
  dn : d ≤ n
  lo : 67108864 * 2 ^ n ≤ a.natAbs
  hi : a.natAbs < 134217728 * 2 ^ n
/-- What becomes of a number's halves. -/
structure Halves (a h : Int) : Prop where
  hi : ∃ g : Nat, ((2 ^ g : Nat) : Int) ∣ h ∧ h.natAbs ≤ 67108864 * 2 ^ g
  lo : ∃ u : Nat, ((2 ^ u : Nat) : Int) ∣ a - h ∧ (a - h).natAbs ≤ 67108864 * 2 ^ u
  dv : ∀ k : Nat, ((2 ^ k : Nat) : Int) ∣ a → ((2 ^ k : Nat) : Int) ∣ h
  sc : a ≠ 0 → ∃ k n d : Nat, HalfN (a * ((2 ^ k : Nat) : Int)) (h * ((2 ^ k : Nat) : Int)) n d
theorem one_dvd' (v : Int) : ((2 ^ 0 : Nat) : Int) ∣ v := by rw [Nat.pow_zero]; exact Int.one_dvd _
theorem few_sc (a : Int) (h : a.natAbs < 67108864) (h0 : a ≠ 0) : ∃ k n d : Nat, HalfN (a * ((2 ^ k : Nat) : Int)) (a * ((2 ^ k : Nat) : Int)) n d := by
  have hlo := bitLen_lo (show a.natAbs ≠ 0 by omega)
  have hhi := bitLen_hi a.natAbs
  have hm := bitLen_le a.natAbs 26 (by omega)
  have hm1 : 1 ≤ bitLen a.natAbs := lt_bitLen (m := a.natAbs) (k := 0) (by rw [Nat.pow_zero]; omega)
  obtain ⟨m, hmm⟩ : ∃ m, bitLen a.natAbs = m := ⟨_, rfl⟩
  rw [hmm] at hlo hhi hm hm1
  obtain ⟨K, hK⟩ : ∃ K, K = 60 := ⟨_, rfl⟩
  have hd : ∀ j, j ≤ K → ((2 ^ j : Nat) : Int) ∣ a * ((2 ^ K : Nat) : Int) := fun j hj => Int.dvd_trans (pow_dvd hj) (Int.dvd_mul_left _ _)
  have hn : (a * ((2 ^ K : Nat) : Int)).natAbs = a.natAbs * 2 ^ K := by rw [Int.natAbs_mul]; rfl
  have e1 : 67108864 * 2 ^ (m + 33) = 2 ^ (m - 1) * 2 ^ K := by
    have h1 : (2 : Nat) ^ (26 + (m + 33)) = 2 ^ 26 * 2 ^ (m + 33) := Nat.pow_add ..
    rw [show (2 : Nat) ^ 26 = 67108864 by decide] at h1
    rw [← h1, ← Nat.pow_add, show 26 + (m + 33) = m - 1 + K by omega]
  have e2 : 134217728 * 2 ^ (m + 33) = 2 ^ m * 2 ^ K := by
    have h1 : (2 : Nat) ^ (27 + (m + 33)) = 2 ^ 27 * 2 ^ (m + 33) := Nat.pow_add ..
    rw [show (2 : Nat) ^ 27 = 134217728 by decide] at h1
    rw [← h1, ← Nat.pow_add, show 27 + (m + 33) = m + K by omega]
  have f1 : a.natAbs * 2 ^ K < 2 ^ m * 2 ^ K := Nat.mul_lt_mul_of_pos_right hhi (Nat.two_pow_pos _)
  refine ⟨K, m + 33, m + 33, hd _ (by omega), ?_, ?_, hd _ (by omega), by omega, Nat.le_refl _, ?_, ?_⟩
  · rw [hn, e2]; exact Nat.le_of_lt f1
  · rw [Int.sub_self]; exact Nat.zero_le _
  · rw [hn, e1]; exact Nat.mul_le_mul_right _ hlo
  · rw [hn, e2]; exact f1
theorem velt_few (a : Int) (h : a.natAbs < 67108864) : rz (134217729 * a) = 134217729 * a ∧ rz (134217729 * a - a) = 134217728 * a ∧ Halves a a := by
  have f1 : Fz (134217729 * a) := Fz_of _ 0 (one_dvd' _) (by rw [Nat.pow_zero]; omega)
  have f2 : Fz (134217728 * a) := Fz_of _ 0 (one_dvd' _) (by rw [Nat.pow_zero]; omega)
  refine ⟨rz_exact f1, by rw [show 134217729 * a - a = 134217728 * a by omega]; exact rz_exact f2, ⟨0, one_dvd' _, by rw [Nat.pow_zero]; omega⟩, ⟨0, one_dvd' _, by rw [Nat.pow_zero]; omega⟩, fun _ h => h, few_sc a h⟩
theorem velt_many (a : Int) (fa : Fz a) (h : 67108864 ≤ a.natAbs) : ∃ H : Int, rz (134217729 * a) - rz (rz (134217729 * a) - a) = H ∧ Fz H ∧ Fz (a - H) ∧ Halves a H := by
  have h0 : a.natAbs ≠ 0 := by omega
  have hlo := bitLen_lo h0
  have hhi := bitLen_hi a.natAbs
  have hn := lt_bitLen (m := a.natAbs) (k := 26) (by omega)
  obtain ⟨n, hnn⟩ : ∃ n, bitLen a.natAbs = n + 27 := ⟨bitLen a.natAbs - 27, by omega⟩
  have hD : Dz a = n + 27 - 53 := by unfold Dz dN; rw [hnn]
  rw [hnn] at hlo hhi
  have p1 : (2 : Nat) ^ (n + 27 - 1) = 67108864 * 2 ^ n := by rw [show n + 27 - 1 = n + 26 by omega, Nat.pow_add, Nat.mul_comm]
  have p2 : (2 : Nat) ^ (n + 27) = 134217728 * 2 ^ n := by rw [Nat.pow_add, Nat.mul_comm]
  rw [p1] at hlo
  rw [p2] at hhi
  have q1 : (2 : Nat) ^ (n + 1) = 2 * 2 ^ n := by rw [Nat.pow_succ]; omega
  have q2 : (2 : Nat) ^ (n + 2) = 4 * 2 ^ n := by rw [Nat.pow_succ, Nat.pow_succ]; omega
  have hP := Nat.two_pow_pos n
  -- the first product is a multiple of 2^(n+1)
  have hA : ((2 ^ (n + 1) : Nat) : Int) ∣ 134217728 * a := by
    obtain ⟨k, hk⟩ := fa
    rw [hD] at hk
    have e : (2 : Nat) ^ (n + 1) ∣ 134217728 * 2 ^ (n + 27 - 53) := by
      rw [show (134217728 : Nat) = 2 ^ 27 by decide, ← Nat.pow_add]
      exact Nat.pow_dvd_pow 2 (by omega)
    obtain ⟨j, hj⟩ := e
    refine ⟨j * k, ?_⟩
    have hj' : (134217728 : Int) * ((2 ^ (n + 27 - 53) : Nat) : Int) = ((2 ^ (n + 1) : Nat) : Int) * (j : Int) := by
      have := congrArg (fun z : Nat => (z : Int)) hj
      simp only [Int.natCast_mul] at this
      exact this
    rw [hk, ← Int.mul_assoc, hj', Int.mul_assoc]
  -- c
  have hd1 : n + 1 ≤ Dz (134217729 * a) := by
    refine dN_ge _ _ ?_
    rw [q1]
    omega
  have hd2 : Dz (134217729 * a) ≤ n + 2 := by
    refine dN_le _ _ ?_
    rw [q2]
    omega
  have c1 : ((2 ^ (n + 1) : Nat) : Int) ∣ rz (134217729 * a) := Int.dvd_trans (pow_dvd hd1) (rz_dvd _)
  have c2 : (rz (134217729 * a) - 134217729 * a).natAbs ≤ 2 * 2 ^ n := by
    have := rz_err (134217729 * a)
    have h2 : 2 ^ Dz (134217729 * a) ≤ 2 ^ (n + 2) := Nat.pow_le_pow_right (by decide) hd2
    rw [q2] at h2
    omega
  have c3 : a.natAbs = 67108864 * 2 ^ n → rz (134217729 * a) = 134217729 * a := by
    intro e
    refine rz_exact (Fz_of _ (n + 26) (Int.ofNat_dvd_left.2 ?_) ?_)
    · refine ⟨134217729, ?_⟩
      rw [Int.natAbs_mul, e, Nat.pow_add, show Int.natAbs 134217729 = 134217729 from rfl]
      omega
    · rw [Nat.pow_add]
      omega
  obtain ⟨c, hc⟩ : ∃ c, rz (134217729 * a) = c := ⟨_, rfl⟩
  rw [hc] at c1 c2 c3 ⊢
  -- d
  have w1 : 9007199254740992 * 2 ^ n ≤ (c - a).natAbs := by
    by_cases e : a.natAbs = 67108864 * 2 ^ n
    · have := c3 e
      omega
    · have := gap_up (k := 4503599627370496) hA (by rw [q1]; omega)
      rw [q1] at this
      omega
  have w2 : (c - a).natAbs ≤ 18014398509481984 * 2 ^ n := by
    have := gap_dn (k := 9007199254740992) hA (by rw [q1]; omega)
    rw [q1] at this
    omega
  have d1 : ((2 ^ (n + 1) : Nat) : Int) ∣ rz (c - a) := by
    refine Int.dvd_trans (pow_dvd ?_) (rz_dvd _)
    refine dN_ge _ _ ?_
    rw [q1]
    omega
  have d2 : (rz (c - a) - (c - a)).natAbs ≤ 2 ^ n := by
    by_cases e : (c - a).natAbs = 18014398509481984 * 2 ^ n
    · have : Fz (c - a) := by
        refine Fz_of _ (n + 1) (Int.ofNat_dvd_left.2 ⟨9007199254740992, by rw [e, q1]; omega⟩) ?_
        rw [q1]; omega
      rw [rz_exact this, Int.sub_self]
      exact Nat.zero_le _
    · have hd : Dz (c - a) ≤ n + 1 := dN_le _ _ (by rw [q1]; omega)
      have := rz_err (c - a)
      have h2 : 2 ^ Dz (c - a) ≤ 2 ^ (n + 1) := Nat.pow_le_pow_right (by decide) hd
      rw [q1] at h2
      omega
  obtain ⟨d, hd⟩ : ∃ d, rz (c - a) = d := ⟨_, rfl⟩
  rw [hd] at d1 d2 ⊢
  -- h
  have h1 : ((2 ^ (n + 1) : Nat) : Int) ∣ c - d := Int.dvd_sub c1 d1
  have h2 : (a - (c - d)).natAbs ≤ 2 ^ n := by omega
  have h3 : (c - d).natAbs ≤ 67108864 * 2 ^ (n + 1) := by
    by_cases e : 67108864 * 2 ^ (n + 1) < (c - d).natAbs
    · have := gap_up h1 e
      rw [q1] at this
      omega
    · omega
  obtain ⟨H, hH⟩ : ∃ H, c - d = H := ⟨_, rfl⟩
  rw [hH] at h1 h2 h3 ⊢
  have hu : ((2 ^ Dz a : Nat) : Int) ∣ a - H := Int.dvd_sub fa (Int.dvd_trans (pow_dvd (by omega)) h1)
  have hl : (a - H).natAbs ≤ 67108864 * 2 ^ Dz a := by
    have : (2 : Nat) ^ n ≤ 2 ^ (26 + Dz a) := Nat.pow_le_pow_right (by decide) (by omega)
    rw [Nat.pow_add] at this
    omega
  refine ⟨H, rfl, Fz_of _ (n + 1) h1 (by omega), Fz_of _ _ hu (by omega), ⟨⟨n + 1, h1, h3⟩, ⟨_, hu, hl⟩, fun k hk => ?_, fun _ => ⟨0, n, n - 26, ?_⟩⟩⟩
  case refine_2 =>
    rw [Nat.pow_zero, show ((1 : Nat) : Int) = 1 from rfl, Int.mul_one, Int.mul_one]
    refine ⟨h1, by omega, h2, ?_, by omega, by omega, hlo, hhi⟩
    have e3 : Dz a = n - 26 := by rw [hD]; omega
    rw [← e3]
    exact fa
  by_cases e : k ≤ n + 1
  · exact Int.dvd_trans (pow_dvd e) h1
  · have : a - H = 0 := gap_zero (Int.dvd_sub (Int.dvd_trans (pow_dvd (by omega)) hk) h1) (by rw [q1]; omega)
    rw [show H = a by omega]
    exact hk
theorem velt (a : Int) (fa : Fz a) : ∃ H : Int, rz (134217729 * a) - rz (rz (134217729 * a) - a) = H ∧ Fz H ∧ Fz (a - H) ∧ Halves a H := by
  by_cases h : a.natAbs < 67108864
  · obtain ⟨v1, v2, v3⟩ := velt_few a h
    refine ⟨a, ?_, fa, ?_, v3⟩
    · rw [v1, v2]; omega
    · rw [Int.sub_self]; exact Fz_zero
  · exact velt_many a fa (by omega)
end Go.Proofs.YtijadahpddmhjaaGreatDoor

namespace Go.Proofs.YtijadahpddmhjaaGreatDoor
open Go Go.RowKit Go.IntWalk

def kH : Nat := 1074
theorem kH_is : kH = 1074 := rfl
theorem sv_half : sv 4728779608772575232 = 134217729 * ((2 ^ kH : Nat) : Int) := by decide +kernel
theorem half_sign (T : Nat) (a : Int) (hT : 0 < T) : (134217729 * (T : Int) * a ≠ 0 ↔ 134217729 * a ≠ 0) ∧ (134217729 * (T : Int) * a < 0 ↔ 134217729 * a < 0) := by
  have e : 134217729 * (T : Int) * a = (T : Int) * (134217729 * a) := by rw [Int.mul_comm 134217729, Int.mul_assoc]
  rw [e]
  obtain ⟨z, hz⟩ : ∃ z, 134217729 * a = z := ⟨_, rfl⟩
  rw [hz]
  have hT' : (0 : Int) < T := by omega
  refine ⟨?_, ?_⟩
  · constructor
    · intro h c; exact h (by rw [c, Int.mul_zero])
    · intro h c
      rcases Int.mul_eq_zero.1 c with c | c <;> omega
  · constructor
    · intro h
      by_cases c : z < 0
      · exact c
      · have := Int.mul_nonneg (Int.le_of_lt hT') (by omega : 0 ≤ z); omega
    · intro h; exact Int.mul_neg_of_pos_of_neg hT' h
theorem fin_half (x : Nat) (a : Int) (hx : Fin64 x a) (h : (134217729 * a).natAbs ≤ 9007199254740992 * 2 ^ kG) : ∃ r, FloatKind.f64.format.mul 4728779608772575232 x = some r ∧ Fin64 r (rz (134217729 * a)) := by
  obtain ⟨x1, x2, rfl⟩ := hx
  obtain ⟨s, e, hs⟩ := mul_rnd 4728779608772575232 x (by decide) x1 (by decide) x2
  rw [sv_half] at e hs
  obtain ⟨T, hT⟩ : ∃ T, (2 : Nat) ^ kH = T := ⟨_, rfl⟩
  have hT0 : 0 < T := by rw [← hT]; exact Nat.two_pow_pos _
  have hr := rndM_sc (134217729 * sv x).natAbs kH (-1074)
  rw [hT] at e hs hr
  obtain ⟨g1, g2⟩ := half_sign T (sv x) hT0
  have hk := kG_is
  rw [← (pow_more kG).2] at h
  have hn : (134217729 * (T : Int) * sv x).natAbs = (134217729 * sv x).natAbs * T := by
    rw [Int.natAbs_mul, Int.natAbs_mul, Int.natAbs_mul, Int.natAbs_natCast, Nat.mul_assoc, Nat.mul_comm T, ← Nat.mul_assoc]
  rw [hn, show (-2148 : Int) = -1074 - ((kH : Nat) : Int) by decide, hr] at e
  obtain ⟨f1, f2⟩ := fin_rz s (134217729 * sv x) (kG + 53) (by omega) h (fun hne => by
    rw [hs (g1.2 hne)]
    exact decide_eq_decide.2 g2)
  exact ⟨_, e, f1⟩
theorem split_vals (x : Nat) (a : Int) (hx : Fin64 x a) (ha : a.natAbs ≤ 33554432 * 2 ^ kG) :
    ∃ c d h l H, FloatKind.f64.format.mul 4728779608772575232 x = some c ∧ FloatKind.f64.format.sub c x = some d ∧ FloatKind.f64.format.sub c d = some h ∧ FloatKind.f64.format.sub x h = some l ∧ Fin64 h H ∧ Fin64 l (a - H) ∧ Halves a H := by
  have fa : Fz a := by obtain ⟨_, _, rfl⟩ := hx; exact Fz_sv x
  obtain ⟨H, v1, v2, v3, v4⟩ := velt a fa
  obtain ⟨M, hM⟩ : ∃ M, 2 ^ kG = M := ⟨_, rfl⟩
  have hM0 : 0 < M := by rw [← hM]; exact Nat.two_pow_pos _
  rw [hM] at ha
  clear fa
  obtain ⟨c, hc1, hc2⟩ := fin_half x a hx (by rw [hM]; omega)
  have d1 := rz_small (134217729 * a) kG (by rw [hM]; omega)
  rw [hM] at d1
  obtain ⟨C, hC⟩ : ∃ C, rz (134217729 * a) = C := ⟨_, rfl⟩
  rw [hC] at hc2 d1 v1
  obtain ⟨d, hd1, hd2, _⟩ := fin_sub c x C a hc2 hx (by rw [hM]; omega)
  have d2 := rz_small (C - a) kG (by rw [hM]; omega)
  rw [hM] at d2
  obtain ⟨D, hD⟩ : ∃ D, rz (C - a) = D := ⟨_, rfl⟩
  rw [hD] at hd2 d2 v1
  obtain ⟨h, hh1, hh2, _⟩ := fin_sub c d C D hc2 hd2 (by rw [hM]; omega)
  rw [v1, rz_exact v2] at hh2
  obtain ⟨l, hl1, hl2, _⟩ := fin_sub x h a H hx hh2 (by rw [hM]; omega)
  rw [rz_exact v3] at hl2
  exact ⟨c, d, h, l, H, hc1, hd1, hh1, hl1, hh2, hl2, v4⟩
end Go.Proofs.YtijadahpddmhjaaGreatDoor
