
/- Two and Quick lose nothing: numbers of an amount of at most 2^1022, in plain arithmetic. No program is spoken of. -/
import Derived.Test.YtehnkgonhgjeiaaGreatDoorP16
namespace Go.Proofs.YtehnkgonhgjeiaaGreatDoor
open Go Go.RowKit Go.IntWalk

def kG : Nat := 2044
theorem kG_is : kG = 2044 := rfl
theorem pow_more (n : Nat) : 2 ^ (n + 52) = 4503599627370496 * 2 ^ n ∧ 2 ^ (n + 53) = 9007199254740992 * 2 ^ n := by
  have e1 : (2 : Nat) ^ 52 = 4503599627370496 := by decide
  have e2 : (2 : Nat) ^ 53 = 9007199254740992 := by decide
  rw [Nat.pow_add, Nat.pow_add, e1, e2, Nat.mul_comm, Nat.mul_comm (2 ^ n)]
  exact ⟨rfl, rfl⟩
/-- The error of what isn't above 2^53 M is at most M. -/
theorem rz_small (v : Int) (n : Nat) (h : v.natAbs ≤ 9007199254740992 * 2 ^ n) : (rz v - v).natAbs ≤ 2 ^ n := by
  have he := rz_err v
  have hd : Dz v ≤ n + 1 := by
    refine dN_le _ _ ?_
    rw [Nat.pow_succ]
    have := Nat.two_pow_pos n
    omega
  have hp : 2 ^ Dz v ≤ 2 ^ (n + 1) := Nat.pow_le_pow_right (by decide) hd
  rw [Nat.pow_succ] at hp
  omega
theorem fin_add (x y : Nat) (a b : Int) (hx : Fin64 x a) (hy : Fin64 y b) (h : (a + b).natAbs ≤ 9007199254740992 * 2 ^ kG) : ∃ r, FloatKind.f64.format.add x y = some r ∧ Fin64 r (rz (a + b)) ∧ (rz (a + b)).natAbs ≤ 9007199254740992 * 2 ^ kG := by
  obtain ⟨x1, x2, rfl⟩ := hx
  obtain ⟨y1, y2, rfl⟩ := hy
  obtain ⟨s, e, hs⟩ := add_val x y x1 y1 x2 y2
  have hk := kG_is
  rw [← (pow_more kG).2] at h ⊢
  obtain ⟨f1, f2⟩ := fin_rz s _ (kG + 53) (by omega) h hs
  exact ⟨_, e, f1, f2⟩
theorem fin_sub (x y : Nat) (a b : Int) (hx : Fin64 x a) (hy : Fin64 y b) (h : (a - b).natAbs ≤ 9007199254740992 * 2 ^ kG) : ∃ r, FloatKind.f64.format.sub x y = some r ∧ Fin64 r (rz (a - b)) ∧ (rz (a - b)).natAbs ≤ 9007199254740992 * 2 ^ kG := by
  obtain ⟨x1, x2, rfl⟩ := hx
  obtain ⟨y1, y2, rfl⟩ := hy
  obtain ⟨s, e, hs⟩ := sub_val x y x1 y1 x2 y2
  have hk := kG_is
  rw [← (pow_more kG).2] at h ⊢
  obtain ⟨f1, f2⟩ := fin_rz s _ (kG + 53) (by omega) h hs
  exact ⟨_, e, f1, f2⟩
/-- Knuth's sum of two, by the machine. -/
theorem two_vals (x y : Nat) (a b : Int) (hx : Fin64 x a) (hy : Fin64 y b) (ha : a.natAbs ≤ 4503599627370496 * 2 ^ kG) (hb : b.natAbs ≤ 4503599627370496 * 2 ^ kG) :
    ∃ s t e1 e2 e3 e, FloatKind.f64.format.add x y = some s ∧ FloatKind.f64.format.sub s x = some t ∧ FloatKind.f64.format.sub s t = some e1 ∧ FloatKind.f64.format.sub x e1 = some e2 ∧ FloatKind.f64.format.sub y t = some e3 ∧ FloatKind.f64.format.add e2 e3 = some e ∧ Fin64 s (rz (a + b)) ∧ Fin64 e (a + b - rz (a + b)) := by
  have fa : Fz a := by obtain ⟨_, _, rfl⟩ := hx; exact Fz_sv x
  have fb : Fz b := by obtain ⟨_, _, rfl⟩ := hy; exact Fz_sv y
  obtain ⟨t1, t2⟩ := two_sum a b fa fb
  obtain ⟨M, hM⟩ : ∃ M, 2 ^ kG = M := ⟨_, rfl⟩
  rw [hM] at ha hb
  clear fa fb t2
  obtain ⟨s, hs1, hs2, _⟩ := fin_add x y a b hx hy (by rw [hM]; omega)
  have d1 := rz_small (a + b) kG (by rw [hM]; omega)
  rw [hM] at d1
  obtain ⟨S, hS⟩ : ∃ S, rz (a + b) = S := ⟨_, rfl⟩
  rw [hS] at hs2 d1 t1
  rw [hS]
  obtain ⟨t, ht1, ht2, _⟩ := fin_sub s x S a hs2 hx (by rw [hM]; omega)
  have d2 := rz_small (S - a) kG (by rw [hM]; omega)
  rw [hM] at d2
  obtain ⟨T, hT⟩ : ∃ T, rz (S - a) = T := ⟨_, rfl⟩
  rw [hT] at ht2 d2 t1
  obtain ⟨u, hu1, hu2, _⟩ := fin_sub s t S T hs2 ht2 (by rw [hM]; omega)
  have d3 := rz_small (S - T) kG (by rw [hM]; omega)
  rw [hM] at d3
  obtain ⟨U, hU⟩ : ∃ U, rz (S - T) = U := ⟨_, rfl⟩
  rw [hU] at hu2 d3 t1
  have f1 : (a - U).natAbs ≤ 2 * M := by omega
  have f2 : (b - T).natAbs ≤ 2 * M := by omega
  clear d1 d2 d3 ha hb hS hT hU
  obtain ⟨v, hv1, hv2, _⟩ := fin_sub x u a U hx hu2 (by rw [hM]; omega)
  obtain ⟨q, hq1, hq2, _⟩ := fin_sub y t b T hy ht2 (by rw [hM]; omega)
  have d4 := rz_small (a - U) kG (by rw [hM]; omega)
  have d5 := rz_small (b - T) kG (by rw [hM]; omega)
  rw [hM] at d4 d5
  obtain ⟨V, hV⟩ : ∃ V, rz (a - U) = V := ⟨_, rfl⟩
  obtain ⟨Q, hQ⟩ : ∃ Q, rz (b - T) = Q := ⟨_, rfl⟩
  rw [hV] at hv2 d4 t1
  rw [hQ] at hq2 d5 t1
  obtain ⟨e, he1, he2, _⟩ := fin_add v q V Q hv2 hq2 (by rw [hM]; omega)
  rw [t1] at he2
  exact ⟨s, t, u, v, q, e, hs1, ht1, hu1, hv1, hq1, he1, hs2, he2⟩
/-- Dekker's quick one. -/
theorem quick_vals (x y : Nat) (a b : Int) (hx : Fin64 x a) (hy : Fin64 y b) (ha : a.natAbs ≤ 4503599627370496 * 2 ^ kG) (hb : b.natAbs ≤ 4503599627370496 * 2 ^ kG) (hab : a = 0 ∨ b.natAbs ≤ a.natAbs) :
    ∃ s t e, FloatKind.f64.format.add x y = some s ∧ FloatKind.f64.format.sub s x = some t ∧ FloatKind.f64.format.sub y t = some e ∧ Fin64 s (rz (a + b)) ∧ Fin64 e (a + b - rz (a + b)) := by
  have fa : Fz a := by obtain ⟨_, _, rfl⟩ := hx; exact Fz_sv x
  have fb : Fz b := by obtain ⟨_, _, rfl⟩ := hy; exact Fz_sv y
  obtain ⟨M, hM⟩ : ∃ M, 2 ^ kG = M := ⟨_, rfl⟩
  rw [hM] at ha hb
  obtain ⟨s, hs1, hs2, _⟩ := fin_add x y a b hx hy (by rw [hM]; omega)
  have d1 := rz_small (a + b) kG (by rw [hM]; omega)
  rw [hM] at d1
  have hF : Fz (rz (a + b) - a) := by
    rcases hab with h | h
    · rw [h, Int.zero_add, rz_exact fb, Int.sub_zero]; exact fb
    · refine fast_F a b fa fb (dN_le _ _ ?_)
      have := dN_hi a.natAbs
      show b.natAbs < 9007199254740992 * 2 ^ dN a.natAbs
      omega
  have hE := err_F a b fa fb
  clear fa fb hab
  obtain ⟨S, hS⟩ : ∃ S, rz (a + b) = S := ⟨_, rfl⟩
  rw [hS] at hs2 d1 hF hE
  rw [hS]
  obtain ⟨t, ht1, ht2, _⟩ := fin_sub s x S a hs2 hx (by rw [hM]; omega)
  rw [rz_exact hF] at ht2
  have e1 : b - (S - a) = a + b - S := by omega
  obtain ⟨e, he1, he2, _⟩ := fin_sub y t b (S - a) hy ht2 (by rw [hM]; omega)
  rw [e1, rz_exact hE] at he2
  exact ⟨s, t, e, hs1, ht1, he1, hs2, he2⟩
end Go.Proofs.YtehnkgonhgjeiaaGreatDoor

namespace Go.Proofs.YtehnkgonhgjeiaaGreatDoor
open Go Go.RowKit Go.IntWalk

theorem gap_up {x : Int} {Q k : Nat} (hd : (Q : Int) ∣ x) (h : k * Q < x.natAbs) : k * Q + Q ≤ x.natAbs := by
  obtain ⟨m, hm⟩ := Int.ofNat_dvd_left.1 hd
  rw [hm, Nat.mul_comm Q m] at h ⊢
  have h1 : k < m := Nat.lt_of_mul_lt_mul_right h
  have := Nat.mul_le_mul_right Q h1
  rw [Nat.succ_mul] at this
  exact this
theorem gap_dn {x : Int} {Q k : Nat} (hd : (Q : Int) ∣ x) (h : x.natAbs < k * Q) : x.natAbs + Q ≤ k * Q := by
  obtain ⟨m, hm⟩ := Int.ofNat_dvd_left.1 hd
  rw [hm, Nat.mul_comm Q m] at h ⊢
  have h1 : m < k := Nat.lt_of_mul_lt_mul_right h
  have := Nat.mul_le_mul_right Q h1
  rw [Nat.succ_mul] at this
  exact this
theorem gap_zero {x : Int} {Q : Nat} (hd : (Q : Int) ∣ x) (h : x.natAbs < Q) : x = 0 := by
  obtain ⟨m, hm⟩ := Int.ofNat_dvd_left.1 hd
  match m, hm with
  | 0, hm => rw [Nat.mul_zero] at hm; omega
  | m + 1, hm =>
    rw [Nat.mul_succ] at hm
    have := Nat.zero_le (Q * m)
    omega
/-- A number and its upper half, by the places of their digits. -/
structure HalfN (a h : Int) (n d : Nat) : Prop where
  hd : ((2 ^ (n + 1) : Nat) : Int) ∣ h
  hb : h.natAbs ≤ 134217728 * 2 ^ n
  lb : (a - h).natAbs ≤ 2 ^ n
  ad : ((2 ^ d : Nat) : Int) ∣ a
  nd : n ≤ d + 26
  dn : d ≤ n
  lo : 67108864 * 2 ^ n ≤ a.natAbs
  hi : a.natAbs < 134217728 * 2 ^ n
/-- What becomes of a number's halves. -/
structure Halves (a h : Int) : Prop where
  hi : ∃ g : Nat, ((2 ^ g : Nat) : Int) ∣ h ∧ h.natAbs ≤ 67108864 * 2 ^ g
  lo : ∃ u : Nat, ((2 ^ u : Nat) : Int) ∣ a - h ∧ (a - h).natAbs ≤ 67108864 * 2 ^ u
  dv : ∀ k : Nat, ((2 ^ k : Nat) : Int) ∣ a → ((2 ^ k : Nat) : Int) ∣ h
  sc : a ≠ 0 → ∃ k n d : Nat, HalfN (a * ((2 ^ k : Nat) : Int)) (h * ((2 ^ k : Nat) : Int)) n d
theorem one_dvd' (v : Int) : ((2 ^ 0 : Nat) : Int) ∣ v := by rw [Nat.pow_zero]; exact Int.one_dvd _
theorem few_sc (a : Int) (h : a.natAbs < 67108864) (h0 : a ≠ 0) : ∃ k n d : Nat, HalfN (a * ((2 ^ k : Nat) : Int)) (a * ((2 ^ k : Nat) : Int)) n d := by
  have hlo := bitLen_lo (show a.natAbs ≠ 0 by omega)
  have hhi := bitLen_hi a.natAbs
  have hm := bitLen_le a.natAbs 26 (by omega)
  have hm1 : 1 ≤ bitLen a.natAbs := lt_bitLen (m := a.natAbs) (k := 0) (by rw [Nat.pow_zero]; omega)
  obtain ⟨m, hmm⟩ : ∃ m, bitLen a.natAbs = m := ⟨_, rfl⟩
  rw [hmm] at hlo hhi hm hm1
  obtain ⟨K, hK⟩ : ∃ K, K = 60 := ⟨_, rfl⟩
  have hd : ∀ j, j ≤ K → ((2 ^ j : Nat) : Int) ∣ a * ((2 ^ K : Nat) : Int) := fun j hj => Int.dvd_trans (pow_dvd hj) (Int.dvd_mul_left _ _)
  have hn : (a * ((2 ^ K : Nat) : Int)).natAbs = a.natAbs * 2 ^ K := by rw [Int.natAbs_mul]; rfl
  have e1 : 67108864 * 2 ^ (m + 33) = 2 ^ (m - 1) * 2 ^ K := by
    have h1 : (2 : Nat) ^ (26 + (m + 33)) = 2 ^ 26 * 2 ^ (m + 33) := Nat.pow_add ..
    rw [show (2 : Nat) ^ 26 = 67108864 by decide] at h1
    rw [← h1, ← Nat.pow_add, show 26 + (m + 33) = m - 1 + K by omega]
  have e2 : 134217728 * 2 ^ (m + 33) = 2 ^ m * 2 ^ K := by
    have h1 : (2 : Nat) ^ (27 + (m + 33)) = 2 ^ 27 * 2 ^ (m + 33) := Nat.pow_add ..
    rw [show (2 : Nat) ^ 27 = 134217728 by decide] at h1
    rw [← h1, ← Nat.pow_add, show 27 + (m + 33) = m + K by omega]
  have f1 : a.natAbs * 2 ^ K < 2 ^ m * 2 ^ K := Nat.mul_lt_mul_of_pos_right hhi (Nat.two_pow_pos _)
  refine ⟨K, m + 33, m + 33, hd _ (by omega), ?_, ?_, hd _ (by omega), by omega, Nat.le_refl _, ?_, ?_⟩
  · rw [hn, e2]; exact Nat.le_of_lt f1
  · rw [Int.sub_self]; exact Nat.zero_le _
  · rw [hn, e1]; exact Nat.mul_le_mul_right _ hlo
  · rw [hn, e2]; exact f1
theorem velt_few (a : Int) (h : a.natAbs < 67108864) : rz (134217729 * a) = 134217729 * a ∧ rz (134217729 * a - a) = 134217728 * a ∧ Halves a a := by
  have f1 : Fz (134217729 * a) := Fz_of _ 0 (one_dvd' _) (by rw [Nat.pow_zero]; omega)
  have f2 : Fz (134217728 * a) := Fz_of _ 0 (one_dvd' _) (by rw [Nat.pow_zero]; omega)
  refine ⟨rz_exact f1, by rw [show 134217729 * a - a = 134217728 * a by omega]; exact rz_exact f2, ⟨0, one_dvd' _, by rw [Nat.pow_zero]; omega⟩, ⟨0, one_dvd' _, by rw [Nat.pow_zero]; omega⟩, fun _ h => h, few_sc a h⟩
theorem velt_many (a : Int) (fa : Fz a) (h : 67108864 ≤ a.natAbs) : ∃ H : Int, rz (134217729 * a) - rz (rz (134217729 * a) - a) = H ∧ Fz H ∧ Fz (a - H) ∧ Halves a H := by
  have h0 : a.natAbs ≠ 0 := by omega
  have hlo := bitLen_lo h0
  have hhi := bitLen_hi a.natAbs
  have hn := lt_bitLen (m := a.natAbs) (k := 26) (by omega)
  obtain ⟨n, hnn⟩ : ∃ n, bitLen a.natAbs = n + 27 := ⟨bitLen a.natAbs - 27, by omega⟩
  have hD : Dz a = n + 27 - 53 := by unfold Dz dN; rw [hnn]
  rw [hnn] at hlo hhi
  have p1 : (2 : Nat) ^ (n + 27 - 1) = 67108864 * 2 ^ n := by rw [show n + 27 - 1 = n + 26 by omega, Nat.pow_add, Nat.mul_comm]
  have p2 : (2 : Nat) ^ (n + 27) = 134217728 * 2 ^ n := by rw [Nat.pow_add, Nat.mul_comm]
  rw [p1] at hlo
  rw [p2] at hhi
  have q1 : (2 : Nat) ^ (n + 1) = 2 * 2 ^ n := by rw [Nat.pow_succ]; omega
  have q2 : (2 : Nat) ^ (n + 2) = 4 * 2 ^ n := by rw [Nat.pow_succ, Nat.pow_succ]; omega
  have hP := Nat.two_pow_pos n
  -- the first product is a multiple of 2^(n+1)
  have hA : ((2 ^ (n + 1) : Nat) : Int) ∣ 134217728 * a := by
    obtain ⟨k, hk⟩ := fa
    rw [hD] at hk
    have e : (2 : Nat) ^ (n + 1) ∣ 134217728 * 2 ^ (n + 27 - 53) := by
      rw [show (134217728 : Nat) = 2 ^ 27 by decide, ← Nat.pow_add]
      exact Nat.pow_dvd_pow 2 (by omega)
    obtain ⟨j, hj⟩ := e
    refine ⟨j * k, ?_⟩
    have hj' : (134217728 : Int) * ((2 ^ (n + 27 - 53) : Nat) : Int) = ((2 ^ (n + 1) : Nat) : Int) * (j : Int) := by
      have := congrArg (fun z : Nat => (z : Int)) hj
      simp only [Int.natCast_mul] at this
      exact this
    rw [hk, ← Int.mul_assoc, hj', Int.mul_assoc]
  -- c
  have hd1 : n + 1 ≤ Dz (134217729 * a) := by
    refine dN_ge _ _ ?_
    rw [q1]
    omega
  have hd2 : Dz (134217729 * a) ≤ n + 2 := by
    refine dN_le _ _ ?_
    rw [q2]
    omega
  have c1 : ((2 ^ (n + 1) : Nat) : Int) ∣ rz (134217729 * a) := Int.dvd_trans (pow_dvd hd1) (rz_dvd _)
  have c2 : (rz (134217729 * a) - 134217729 * a).natAbs ≤ 2 * 2 ^ n := by
    have := rz_err (134217729 * a)
    have h2 : 2 ^ Dz (134217729 * a) ≤ 2 ^ (n + 2) := Nat.pow_le_pow_right (by decide) hd2
    rw [q2] at h2
    omega
  have c3 : a.natAbs = 67108864 * 2 ^ n → rz (134217729 * a) = 134217729 * a := by
    intro e
    refine rz_exact (Fz_of _ (n + 26) (Int.ofNat_dvd_left.2 ?_) ?_)
    · refine ⟨134217729, ?_⟩
      rw [Int.natAbs_mul, e, Nat.pow_add, show Int.natAbs 134217729 = 134217729 from rfl]
      omega
    · rw [Nat.pow_add]
      omega
  obtain ⟨c, hc⟩ : ∃ c, rz (134217729 * a) = c := ⟨_, rfl⟩
  rw [hc] at c1 c2 c3 ⊢
  -- d
  have w1 : 9007199254740992 * 2 ^ n ≤ (c - a).natAbs := by
    by_cases e : a.natAbs = 67108864 * 2 ^ n
    · have := c3 e
      omega
    · have := gap_up (k := 4503599627370496) hA (by rw [q1]; omega)
      rw [q1] at this
      omega
  have w2 : (c - a).natAbs ≤ 18014398509481984 * 2 ^ n := by
    have := gap_dn (k := 9007199254740992) hA (by rw [q1]; omega)
    rw [q1] at this
    omega
  have d1 : ((2 ^ (n + 1) : Nat) : Int) ∣ rz (c - a) := by
    refine Int.dvd_trans (pow_dvd ?_) (rz_dvd _)
    refine dN_ge _ _ ?_
    rw [q1]
    omega
  have d2 : (rz (c - a) - (c - a)).natAbs ≤ 2 ^ n := by
    by_cases e : (c - a).natAbs = 18014398509481984 * 2 ^ n
    · have : Fz (c - a) := by
        refine Fz_of _ (n + 1) (Int.ofNat_dvd_left.2 ⟨9007199254740992, by rw [e, q1]; omega⟩) ?_
        rw [q1]; omega
      rw [rz_exact this, Int.sub_self]
      exact Nat.zero_le _
    · have hd : Dz (c - a) ≤ n + 1 := dN_le _ _ (by rw [q1]; omega)
      have := rz_err (c - a)
      have h2 : 2 ^ Dz (c - a) ≤ 2 ^ (n + 1) := Nat.pow_le_pow_right (by decide) hd
      rw [q1] at h2
      omega
  obtain ⟨d, hd⟩ : ∃ d, rz (c - a) = d := ⟨_, rfl⟩
  rw [hd] at d1 d2 ⊢
  -- h
  have h1 : ((2 ^ (n + 1) : Nat) : Int) ∣ c - d := Int.dvd_sub c1 d1
  have h2 : (a - (c - d)).natAbs ≤ 2 ^ n := by omega
  have h3 : (c - d).natAbs ≤ 67108864 * 2 ^ (n + 1) := by
    by_cases e : 67108864 * 2 ^ (n + 1) < (c - d).natAbs
    · have := gap_up h1 e
      rw [q1] at this
      omega
    · omega
  obtain ⟨H, hH⟩ : ∃ H, c - d = H := ⟨_, rfl⟩
  rw [hH] at h1 h2 h3 ⊢
  have hu : ((2 ^ Dz a : Nat) : Int) ∣ a - H := Int.dvd_sub fa (Int.dvd_trans (pow_dvd (by omega)) h1)
  have hl : (a - H).natAbs ≤ 67108864 * 2 ^ Dz a := by
    have : (2 : Nat) ^ n ≤ 2 ^ (26 + Dz a) := Nat.pow_le_pow_right (by decide) (by omega)
    rw [Nat.pow_add] at this
    omega
  refine ⟨H, rfl, Fz_of _ (n + 1) h1 (by omega), Fz_of _ _ hu (by omega), ⟨⟨n + 1, h1, h3⟩, ⟨_, hu, hl⟩, fun k hk => ?_, fun _ => ⟨0, n, n - 26, ?_⟩⟩⟩
  case refine_2 =>
    rw [Nat.pow_zero, show ((1 : Nat) : Int) = 1 from rfl, Int.mul_one, Int.mul_one]
    refine ⟨h1, by omega, h2, ?_, by omega, by omega, hlo, hhi⟩
    have e3 : Dz a = n - 26 := by rw [hD]; omega
    rw [← e3]
    exact fa
  by_cases e : k ≤ n + 1
  · exact Int.dvd_trans (pow_dvd e) h1
  · have : a - H = 0 := gap_zero (Int.dvd_sub (Int.dvd_trans (pow_dvd (by omega)) hk) h1) (by rw [q1]; omega)
    rw [show H = a by omega]
    exact hk
theorem velt (a : Int) (fa : Fz a) : ∃ H : Int, rz (134217729 * a) - rz (rz (134217729 * a) - a) = H ∧ Fz H ∧ Fz (a - H) ∧ Halves a H := by
  by_cases h : a.natAbs < 67108864
  · obtain ⟨v1, v2, v3⟩ := velt_few a h
    refine ⟨a, ?_, fa, ?_, v3⟩
    · rw [v1, v2]; omega
    · rw [Int.sub_self]; exact Fz_zero
  · exact velt_many a fa (by omega)
end Go.Proofs.YtehnkgonhgjeiaaGreatDoor

namespace Go.Proofs.YtehnkgonhgjeiaaGreatDoor
open Go Go.RowKit Go.IntWalk

def kH : Nat := 1074
theorem kH_is : kH = 1074 := rfl
theorem sv_half : sv 4728779608772575232 = 134217729 * ((2 ^ kH : Nat) : Int) := by decide +kernel
theorem half_sign (T : Nat) (a : Int) (hT : 0 < T) : (134217729 * (T : Int) * a ≠ 0 ↔ 134217729 * a ≠ 0) ∧ (134217729 * (T : Int) * a < 0 ↔ 134217729 * a < 0) := by
  have e : 134217729 * (T : Int) * a = (T : Int) * (134217729 * a) := by rw [Int.mul_comm 134217729, Int.mul_assoc]
  rw [e]
  obtain ⟨z, hz⟩ : ∃ z, 134217729 * a = z := ⟨_, rfl⟩
  rw [hz]
  have hT' : (0 : Int) < T := by omega
  refine ⟨?_, ?_⟩
  · constructor
    · intro h c; exact h (by rw [c, Int.mul_zero])
    · intro h c
      rcases Int.mul_eq_zero.1 c with c | c <;> omega
  · constructor
    · intro h
      by_cases c : z < 0
      · exact c
      · have := Int.mul_nonneg (Int.le_of_lt hT') (by omega : 0 ≤ z); omega
    · intro h; exact Int.mul_neg_of_pos_of_neg hT' h
theorem fin_half (x : Nat) (a : Int) (hx : Fin64 x a) (h : (134217729 * a).natAbs ≤ 9007199254740992 * 2 ^ kG) : ∃ r, FloatKind.f64.format.mul 4728779608772575232 x = some r ∧ Fin64 r (rz (134217729 * a)) := by
  obtain ⟨x1, x2, rfl⟩ := hx
  obtain ⟨s, e, hs⟩ := mul_rnd 4728779608772575232 x (by decide) x1 (by decide) x2
  rw [sv_half] at e hs
  obtain ⟨T, hT⟩ : ∃ T, (2 : Nat) ^ kH = T := ⟨_, rfl⟩
  have hT0 : 0 < T := by rw [← hT]; exact Nat.two_pow_pos _
  have hr := rndM_sc (134217729 * sv x).natAbs kH (-1074)
  rw [hT] at e hs hr
  obtain ⟨g1, g2⟩ := half_sign T (sv x) hT0
  have hk := kG_is
  rw [← (pow_more kG).2] at h
  have hn : (134217729 * (T : Int) * sv x).natAbs = (134217729 * sv x).natAbs * T := by
    rw [Int.natAbs_mul, Int.natAbs_mul, Int.natAbs_mul, Int.natAbs_natCast, Nat.mul_assoc, Nat.mul_comm T, ← Nat.mul_assoc]
  rw [hn, show (-2148 : Int) = -1074 - ((kH : Nat) : Int) by decide, hr] at e
  obtain ⟨f1, f2⟩ := fin_rz s (134217729 * sv x) (kG + 53) (by omega) h (fun hne => by
    rw [hs (g1.2 hne)]
    exact decide_eq_decide.2 g2)
  exact ⟨_, e, f1⟩
theorem split_vals (x : Nat) (a : Int) (hx : Fin64 x a) (ha : a.natAbs ≤ 33554432 * 2 ^ kG) :
    ∃ c d h l H, FloatKind.f64.format.mul 4728779608772575232 x = some c ∧ FloatKind.f64.format.sub c x = some d ∧ FloatKind.f64.format.sub c d = some h ∧ FloatKind.f64.format.sub x h = some l ∧ Fin64 h H ∧ Fin64 l (a - H) ∧ Halves a H := by
  have fa : Fz a := by obtain ⟨_, _, rfl⟩ := hx; exact Fz_sv x
  obtain ⟨H, v1, v2, v3, v4⟩ := velt a fa
  obtain ⟨M, hM⟩ : ∃ M, 2 ^ kG = M := ⟨_, rfl⟩
  have hM0 : 0 < M := by rw [← hM]; exact Nat.two_pow_pos _
  rw [hM] at ha
  clear fa
  obtain ⟨c, hc1, hc2⟩ := fin_half x a hx (by rw [hM]; omega)
  have d1 := rz_small (134217729 * a) kG (by rw [hM]; omega)
  rw [hM] at d1
  obtain ⟨C, hC⟩ : ∃ C, rz (134217729 * a) = C := ⟨_, rfl⟩
  rw [hC] at hc2 d1 v1
  obtain ⟨d, hd1, hd2, _⟩ := fin_sub c x C a hc2 hx (by rw [hM]; omega)
  have d2 := rz_small (C - a) kG (by rw [hM]; omega)
  rw [hM] at d2
  obtain ⟨D, hD⟩ : ∃ D, rz (C - a) = D := ⟨_, rfl⟩
  rw [hD] at hd2 d2 v1
  obtain ⟨h, hh1, hh2, _⟩ := fin_sub c d C D hc2 hd2 (by rw [hM]; omega)
  rw [v1, rz_exact v2] at hh2
  obtain ⟨l, hl1, hl2, _⟩ := fin_sub x h a H hx hh2 (by rw [hM]; omega)
  rw [rz_exact v3] at hl2
  exact ⟨c, d, h, l, H, hc1, hd1, hh1, hl1, hh2, hl2, v4⟩
end Go.Proofs.YtehnkgonhgjeiaaGreatDoor

namespace Go.Proofs.YtehnkgonhgjeiaaGreatDoor
open Go Go.RowKit Go.IntWalk

theorem pow_cast_add (x y : Nat) : ((2 ^ (x + y) : Nat) : Int) = ((2 ^ x : Nat) : Int) * ((2 ^ y : Nat) : Int) := by rw [Nat.pow_add, Int.natCast_mul]
theorem dvd_pp {u v : Int} {x y : Nat} (hu : ((2 ^ x : Nat) : Int) ∣ u) (hv : ((2 ^ y : Nat) : Int) ∣ v) : ((2 ^ (x + y) : Nat) : Int) ∣ u * v := by
  rw [pow_cast_add]
  exact Int.mul_dvd_mul hu hv
theorem nb_mul {u v : Int} {c d x y : Nat} (hu : u.natAbs ≤ c * 2 ^ x) (hv : v.natAbs ≤ d * 2 ^ y) : (u * v).natAbs ≤ (c * d) * 2 ^ (x + y) := by
  have e : (c * 2 ^ x) * (d * 2 ^ y) = (c * d) * 2 ^ (x + y) := by
    rw [Nat.pow_add, Nat.mul_assoc c, Nat.mul_left_comm (2 ^ x), ← Nat.mul_assoc, ← Nat.mul_assoc]
  rw [Int.natAbs_mul, ← e]
  exact Nat.mul_le_mul hu hv
theorem nb_mul_lo {u v : Int} {c d x y : Nat} (hu : c * 2 ^ x ≤ u.natAbs) (hv : d * 2 ^ y ≤ v.natAbs) : (c * d) * 2 ^ (x + y) ≤ (u * v).natAbs := by
  have e : (c * 2 ^ x) * (d * 2 ^ y) = (c * d) * 2 ^ (x + y) := by
    rw [Nat.pow_add, Nat.mul_assoc c, Nat.mul_left_comm (2 ^ x), ← Nat.mul_assoc, ← Nat.mul_assoc]
  rw [Int.natAbs_mul, ← e]
  exact Nat.mul_le_mul hu hv
theorem abs_sc (V : Int) (t : Nat) : (V * ((2 ^ t : Nat) : Int)).natAbs = V.natAbs * 2 ^ t := by rw [Int.natAbs_mul]; rfl
/-- A number of 53 digits, seen at a finer grid. -/
theorem Fz_sc (V : Int) (t G : Nat) (hd : ((2 ^ G : Nat) : Int) ∣ V * ((2 ^ t : Nat) : Int)) (hb : (V * ((2 ^ t : Nat) : Int)).natAbs ≤ 9007199254740992 * 2 ^ G) : Fz V := by
  rw [abs_sc] at hb
  have hp := Nat.two_pow_pos t
  by_cases c : t ≤ G
  · obtain ⟨g, rfl⟩ : ∃ g, G = g + t := ⟨G - t, by omega⟩
    rw [pow_cast_add] at hd
    rw [Nat.pow_add, ← Nat.mul_assoc] at hb
    refine Fz_of V g (Int.dvd_of_mul_dvd_mul_right (by omega) hd) (Nat.le_of_mul_le_mul_right hb hp)
  · have h2 : 2 ^ G ≤ 2 ^ t := Nat.pow_le_pow_right (by decide) (by omega)
    have h3 : V.natAbs * 2 ^ t ≤ 9007199254740992 * 2 ^ t := by omega
    exact Fz_of V 0 (one_dvd' _) (by rw [Nat.pow_zero]; have := Nat.le_of_mul_le_mul_right h3 hp; omega)
theorem le_sc {V P : Int} {c t : Nat} (h : (V * ((2 ^ t : Nat) : Int)).natAbs ≤ c * (P * ((2 ^ t : Nat) : Int)).natAbs) : V.natAbs ≤ c * P.natAbs := by
  rw [abs_sc, abs_sc, ← Nat.mul_assoc] at h
  exact Nat.le_of_mul_le_mul_right h (Nat.two_pow_pos t)
/-- The rounded product, seen at the finer grid. -/
theorem prod_sc (P : Int) (t s : Nat) (h1 : 4503599627370496 * 2 ^ s ≤ (P * ((2 ^ t : Nat) : Int)).natAbs) (h2 : (P * ((2 ^ t : Nat) : Int)).natAbs < 18014398509481984 * 2 ^ s) :
    ((2 ^ s : Nat) : Int) ∣ rz P * ((2 ^ t : Nat) : Int) ∧ (rz P * ((2 ^ t : Nat) : Int) - P * ((2 ^ t : Nat) : Int)).natAbs ≤ 2 ^ s := by
  rw [abs_sc] at h1 h2
  have hp := Nat.two_pow_pos t
  constructor
  · refine Int.dvd_trans (pow_dvd (?_ : s ≤ Dz P + t)) (by rw [pow_cast_add]; exact Int.mul_dvd_mul (rz_dvd P) (Int.dvd_refl _))
    by_cases c : s ≤ t
    · omega
    · obtain ⟨g, rfl⟩ : ∃ g, s = g + t := ⟨s - t, by omega⟩
      rw [Nat.pow_add, ← Nat.mul_assoc] at h1
      have := dN_ge P.natAbs g (Nat.le_of_mul_le_mul_right h1 hp)
      unfold Dz
      omega
  · have he := rz_err P
    have ed : rz P * ((2 ^ t : Nat) : Int) - P * ((2 ^ t : Nat) : Int) = (rz P - P) * ((2 ^ t : Nat) : Int) := by rw [Int.sub_mul]
    rw [ed, abs_sc]
    have hm := Nat.mul_le_mul_right (2 ^ t) he
    rw [← Nat.pow_add] at hm
    by_cases c : t ≤ s + 1
    · obtain ⟨g, hg⟩ : ∃ g, s + 1 = g + t := ⟨s + 1 - t, by omega⟩
      have hd : Dz P ≤ g := by
        refine dN_le _ _ ?_
        have e : 18014398509481984 * 2 ^ s = 9007199254740992 * 2 ^ g * 2 ^ t := by
          rw [Nat.mul_assoc, ← Nat.pow_add, ← hg, Nat.pow_succ]
          omega
        rw [e] at h2
        exact Nat.lt_of_mul_lt_mul_right h2
      have h3 : 2 ^ (Dz P + t) ≤ 2 ^ (s + 1) := Nat.pow_le_pow_right (by decide) (by omega)
      rw [Nat.pow_succ] at h3
      rw [Nat.mul_assoc] at hm
      omega
    · have h3 : 2 ^ (s + 2) ≤ 2 ^ t := Nat.pow_le_pow_right (by decide) (by omega)
      rw [Nat.pow_succ, Nat.pow_succ] at h3
      have h4 : P.natAbs * 2 ^ t < 9007199254740992 * 2 ^ t := by omega
      have h5 := Nat.lt_of_mul_lt_mul_right h4
      have : Fz P := Fz_of P 0 (one_dvd' _) (by rw [Nat.pow_zero]; omega)
      rw [rz_exact this, Int.sub_self]
      simp
theorem four_parts (H l I k : Int) : (H + l) * (I + k) = H * I + l * I + H * k + l * k := by
  rw [Int.add_mul, Int.mul_add, Int.mul_add]
  omega
set_option maxHeartbeats 1000000 in
/-- Dekker: each step is exact. -/
theorem dekker (a b H I : Int) (nA dA nB dB t : Nat) (hA : HalfN a H nA dA) (hB : HalfN b I nB dB) (P hi li hk lk : Int)
    (e0 : a * b = P * ((2 ^ t : Nat) : Int)) (e1 : H * I = hi * ((2 ^ t : Nat) : Int)) (e2 : (a - H) * I = li * ((2 ^ t : Nat) : Int)) (e3 : H * (b - I) = hk * ((2 ^ t : Nat) : Int)) (e4 : (a - H) * (b - I) = lk * ((2 ^ t : Nat) : Int)) :
    (Fz hi ∧ Fz li ∧ Fz hk ∧ Fz lk) ∧ (Fz (rz P - hi) ∧ Fz (rz P - hi - li) ∧ Fz (rz P - hi - li - hk) ∧ Fz (P - rz P)) ∧ lk - (rz P - hi - li - hk) = P - rz P
      ∧ (hi.natAbs ≤ 4 * P.natAbs ∧ li.natAbs ≤ 4 * P.natAbs ∧ hk.natAbs ≤ 4 * P.natAbs ∧ lk.natAbs ≤ 4 * P.natAbs) ∧ ((rz P - hi).natAbs ≤ 4 * P.natAbs ∧ (rz P - hi - li).natAbs ≤ 4 * P.natAbs ∧ (rz P - hi - li - hk).natAbs ≤ 4 * P.natAbs ∧ (P - rz P).natAbs ≤ 4 * P.natAbs) := by
  obtain ⟨a1, a2, a3, a4, a5, a6, a7, a8⟩ := hA
  obtain ⟨b1, b2, b3, b4, b5, b6, b7, b8⟩ := hB
  have aL : ((2 ^ dA : Nat) : Int) ∣ a - H := Int.dvd_sub a4 (Int.dvd_trans (pow_dvd (by omega)) a1)
  have bL : ((2 ^ dB : Nat) : Int) ∣ b - I := Int.dvd_sub b4 (Int.dvd_trans (pow_dvd (by omega)) b1)
  -- sizes
  have z1 := nb_mul_lo a7 b7
  have z2 : (a * b).natAbs < 18014398509481984 * 2 ^ (nA + nB) := by
    rw [Int.natAbs_mul, Nat.pow_add]
    have : a.natAbs * b.natAbs < (134217728 * 2 ^ nA) * (134217728 * 2 ^ nB) := Nat.mul_lt_mul'' a8 b8
    have e : (134217728 * 2 ^ nA) * (134217728 * 2 ^ nB) = 18014398509481984 * (2 ^ nA * 2 ^ nB) := by
      rw [Nat.mul_assoc, Nat.mul_left_comm (2 ^ nA), ← Nat.mul_assoc]
    omega
  have s1 := nb_mul a2 b2
  have s2 := nb_mul (c := 1) (d := 134217728) (by rw [Nat.one_mul]; exact a3) b2
  have s3 := nb_mul (c := 134217728) (d := 1) a2 (by rw [Nat.one_mul]; exact b3)
  have s4 := nb_mul (c := 1) (d := 1) (by rw [Nat.one_mul]; exact a3) (by rw [Nat.one_mul]; exact b3)
  -- grids
  have g1 := dvd_pp a1 b1
  have g2 := dvd_pp aL b1
  have g3 := dvd_pp a1 bL
  have g4 := dvd_pp aL bL
  have g0 := dvd_pp a4 b4
  have hZ : P * ((2 ^ t : Nat) : Int) = hi * ((2 ^ t : Nat) : Int) + li * ((2 ^ t : Nat) : Int) + hk * ((2 ^ t : Nat) : Int) + lk * ((2 ^ t : Nat) : Int) := by
    rw [← e0, ← e1, ← e2, ← e3, ← e4, ← four_parts, show H + (a - H) = a by omega, show I + (b - I) = b by omega]
  rw [e0] at z1 z2 g0
  rw [e1] at s1 g1
  rw [e2] at s2 g2
  rw [e3] at s3 g3
  rw [e4] at s4 g4
  obtain ⟨p1, p2⟩ := prod_sc P t (nA + nB) (by omega) z2
  have hT : (0 : Int) < ((2 ^ t : Nat) : Int) := by have := Nat.two_pow_pos t; omega
  have hPz : P = hi + li + hk + lk := by
    have : (P - (hi + li + hk + lk)) * ((2 ^ t : Nat) : Int) = 0 := by
      rw [Int.sub_mul, Int.add_mul, Int.add_mul, Int.add_mul]; omega
    rcases Int.mul_eq_zero.1 this with h | h <;> omega
  have x1 : (rz P - hi) * ((2 ^ t : Nat) : Int) = rz P * ((2 ^ t : Nat) : Int) - hi * ((2 ^ t : Nat) : Int) := Int.sub_mul ..
  have x2 : (rz P - hi - li) * ((2 ^ t : Nat) : Int) = rz P * ((2 ^ t : Nat) : Int) - hi * ((2 ^ t : Nat) : Int) - li * ((2 ^ t : Nat) : Int) := by rw [Int.sub_mul, Int.sub_mul]
  have x3 : (rz P - hi - li - hk) * ((2 ^ t : Nat) : Int) = rz P * ((2 ^ t : Nat) : Int) - hi * ((2 ^ t : Nat) : Int) - li * ((2 ^ t : Nat) : Int) - hk * ((2 ^ t : Nat) : Int) := by rw [Int.sub_mul, Int.sub_mul, Int.sub_mul]
  have x4 : (P - rz P) * ((2 ^ t : Nat) : Int) = P * ((2 ^ t : Nat) : Int) - rz P * ((2 ^ t : Nat) : Int) := Int.sub_mul ..
  -- powers
  have m2 : 2 ^ (nA + nB) ≤ 2 ^ (25 + (dA + (nB + 1))) := Nat.pow_le_pow_right (by decide) (by omega)
  have m3 : 2 ^ (nA + nB) ≤ 2 ^ (25 + (nA + 1 + dB)) := Nat.pow_le_pow_right (by decide) (by omega)
  have m4 : 2 ^ (nA + nB) ≤ 2 ^ (52 + (dA + dB)) := Nat.pow_le_pow_right (by decide) (by omega)
  have m1 : 2 ^ (nA + 1 + (nB + 1)) = 4 * 2 ^ (nA + nB) := by rw [show nA + 1 + (nB + 1) = 2 + (nA + nB) by omega, Nat.pow_add]
  rw [Nat.pow_add 2 25, show (2 : Nat) ^ 25 = 33554432 by decide] at m2 m3
  rw [Nat.pow_add 2 52, show (2 : Nat) ^ 52 = 4503599627370496 by decide] at m4
  -- the common grids of the second and the third step
  obtain ⟨G2, q1, q2, q3⟩ : ∃ G2, G2 ≤ nA + nB ∧ G2 ≤ dA + (nB + 1) ∧ 2 ^ (nA + nB) ≤ 33554432 * 2 ^ G2 := by
    by_cases c : nA + nB ≤ dA + (nB + 1)
    · exact ⟨nA + nB, Nat.le_refl _, c, by have := Nat.two_pow_pos (nA + nB); omega⟩
    · exact ⟨_, by omega, Nat.le_refl _, m2⟩
  obtain ⟨G3, r1, r2, r3⟩ : ∃ G3, G3 ≤ G2 ∧ G3 ≤ nA + 1 + dB ∧ 2 ^ (nA + nB) ≤ 33554432 * 2 ^ G3 := by
    by_cases c : G2 ≤ nA + 1 + dB
    · exact ⟨G2, Nat.le_refl _, c, q3⟩
    · exact ⟨_, by omega, Nat.le_refl _, m3⟩
  have y1 : ((2 ^ (nA + nB) : Nat) : Int) ∣ hi * ((2 ^ t : Nat) : Int) := Int.dvd_trans (pow_dvd (by omega)) g1
  have d1 : ((2 ^ (nA + nB) : Nat) : Int) ∣ (rz P - hi) * ((2 ^ t : Nat) : Int) := by rw [x1]; exact Int.dvd_sub p1 y1
  have d2 : ((2 ^ G2 : Nat) : Int) ∣ (rz P - hi - li) * ((2 ^ t : Nat) : Int) := by
    rw [x2]
    exact Int.dvd_sub (Int.dvd_trans (pow_dvd q1) (Int.dvd_sub p1 y1)) (Int.dvd_trans (pow_dvd q2) g2)
  have d3 : ((2 ^ G3 : Nat) : Int) ∣ (rz P - hi - li - hk) * ((2 ^ t : Nat) : Int) := by
    rw [x3]
    exact Int.dvd_sub (Int.dvd_trans (pow_dvd r1) (by rw [← x2]; exact d2)) (Int.dvd_trans (pow_dvd r2) g3)
  have d4 : ((2 ^ (dA + dB) : Nat) : Int) ∣ (P - rz P) * ((2 ^ t : Nat) : Int) := by
    rw [x4]
    exact Int.dvd_sub g0 (Int.dvd_trans (pow_dvd (by omega)) p1)
  have eE : lk - (rz P - hi - li - hk) = P - rz P := by omega
  refine ⟨⟨Fz_sc hi t _ g1 ?_, Fz_sc li t _ g2 ?_, Fz_sc hk t _ g3 ?_, Fz_sc lk t _ g4 ?_⟩, ⟨Fz_sc _ t _ d1 ?_, Fz_sc _ t _ d2 ?_, Fz_sc _ t _ d3 ?_, Fz_sc _ t _ d4 ?_⟩, eE, ⟨le_sc (t := t) ?_, le_sc (t := t) ?_, le_sc (t := t) ?_, le_sc (t := t) ?_⟩, ⟨le_sc (t := t) ?_, le_sc (t := t) ?_, le_sc (t := t) ?_, le_sc (t := t) ?_⟩⟩
  all_goals (try rw [x1]) <;> (try rw [x2]) <;> (try rw [x3]) <;> (try rw [x4])
  all_goals
    clear x1 x2 x3 x4 d1 d2 d3 d4 g0 g1 g2 g3 g4 y1 p1 e0 e1 e2 e3 e4 aL bL a1 b1 a4 b4 hPz eE
    generalize rz P * ((2 ^ t : Nat) : Int) = Pr at *
    generalize P * ((2 ^ t : Nat) : Int) = Pz at *
    generalize hi * ((2 ^ t : Nat) : Int) = w1 at *
    generalize li * ((2 ^ t : Nat) : Int) = w2 at *
    generalize hk * ((2 ^ t : Nat) : Int) = w3 at *
    generalize lk * ((2 ^ t : Nat) : Int) = w4 at *
    generalize 2 ^ (nA + nB) = M at *
    generalize 2 ^ G2 = K2 at *
    generalize 2 ^ G3 = K3 at *
    generalize 2 ^ (nA + 1 + (nB + 1)) = K1 at *
    generalize 2 ^ (dA + (nB + 1)) = K4 at *
    generalize 2 ^ (nA + 1 + dB) = K5 at *
    generalize 2 ^ (dA + dB) = K6 at *
    omega
end Go.Proofs.YtehnkgonhgjeiaaGreatDoor

namespace Go.Proofs.YtehnkgonhgjeiaaGreatDoor
open Go Go.RowKit Go.IntWalk

theorem read_fin2 (x : Nat) (hx : x < 18446744073709551616) (h : x % 9223372036854775808 < 9218868437227405312) :
    ∃ m : Nat, ∃ p : Nat, FloatKind.f64.format.read x = .number (decide (9223372036854775808 ≤ x)) m ((p : Int) - 1074) ∧ m < 9007199254740992 ∧ (p = 0 ∧ m = x % 9223372036854775808 ∨ 1 ≤ p ∧ 4503599627370496 ≤ m ∧ x % 9223372036854775808 = p * 4503599627370496 + m) := by
  unfold Ieee.Format.read
  rw [fmt_sw, fmt_bin, fmt_inf, fmt_lp, sign_read x hx]
  by_cases h1 : x % 9223372036854775808 < 4503599627370496
  · exact ⟨x % 9223372036854775808, 0, by simp only [if_pos h1]; rfl, by omega, Or.inl ⟨rfl, rfl⟩⟩
  · refine ⟨4503599627370496 + x % 9223372036854775808 % 4503599627370496, x % 9223372036854775808 / 4503599627370496 - 1, ?_, by omega, ?_⟩
    · simp only [if_neg h1, if_pos h]
      congr 1
    · by_cases c : x % 9223372036854775808 / 4503599627370496 = 1
      · left; omega
      · right; omega
theorem nv_small (r : Nat) (h : r ≤ 9007199254740992) : nv r = r := by
  unfold nv
  split
  · rfl
  · by_cases c : r = 9007199254740992
    · rw [c]
    · have e1 : r / 4503599627370496 - 1 = 0 := by omega
      have e2 : r % 4503599627370496 = r - 4503599627370496 := by omega
      rw [e1, e2, Nat.pow_zero, Nat.mul_one]
      omega
theorem rnd_odd (m : Nat) (h0 : m ≠ 0) (hm : m < 9007199254740992) : rndM m (-1075) = stepN m 1 0 false := by
  have hr : rndM m (-1075) = FloatKind.f64.format.nearest false m (-1075) := (near_rnd false m (-1075)).1.symm
  rw [hr]
  have hl : m.log2 ≤ 52 := by
    have := (Nat.log2_lt h0).2 (show m < 2 ^ 53 by omega)
    omega
  unfold Ieee.Format.nearest
  rw [if_neg h0, fmt_fb, fmt_lp, fmt_bin, fmt_inf]
  have l2 : max ((-1075 : Int) + (m.log2 : Int) - ((52 : Nat) : Int)) (-1074) = -1074 := by omega
  simp only [l2]
  have t3 : ((-1075 : Int) - -1074).toNat = 0 := by omega
  have t4 : ((-1074 : Int) - -1075).toNat = 1 := by omega
  rw [t3, t4, Nat.shiftLeft_zero, cut_near, word_false]
  have e1 : stepQ m ((1 : Nat) : Int) 0 false = stepN m 1 0 false := stepQ_nat m 1
  rw [e1]
  obtain ⟨_, _, _, h4⟩ := step_near m 1
  have hs : stepN m 1 0 false ≤ 4503599627370496 := by
    rcases h4 with h4 | ⟨h4, _⟩ <;> omega
  have e2 : ((-1074 : Int) - -1074).toNat = 0 := by omega
  simp only [e2]
  omega
/-- A number divided by 2. -/
theorem div_two (x : Nat) (hx : x < 18446744073709551616) (fx : x % 9223372036854775808 < 9218868437227405312) :
    ∃ q, FloatKind.f64.format.div x 4611686018427387904 = some q ∧ q < 18446744073709551616 ∧ q % 9223372036854775808 < 9218868437227405312 ∧ (2 * sv q = sv x ∨ 2 * sv q = sv x + 1 ∨ 2 * sv q = sv x - 1) := by
  obtain ⟨m, p, ex, hm, hp⟩ := read_fin2 x hx fx
  have e2 : FloatKind.f64.format.read 4611686018427387904 = .number false 4503599627370496 (-51) := by decide +kernel
  have key : FloatKind.f64.format.div x 4611686018427387904 = some (signN (decide (9223372036854775808 ≤ x)) (rndM m ((p : Int) - 1075))) := by
    unfold Ieee.Format.div
    rw [ex, e2]
    simp only [Ieee.Datum.quotient]
    rw [if_neg (by decide : ¬ (4503599627370496 : Nat) = 0)]
    have hl2 : Nat.log2 4503599627370496 = 52 := by decide +kernel
    have hlm : m.log2 ≤ 52 := by
      by_cases c : m = 0
      · rw [c]; decide
      · have := (Nat.log2_lt c).2 (show m < 2 ^ 53 by omega)
        omega
    rw [fmt_fb, hl2]
    obtain ⟨k, hk⟩ : ∃ k, 52 + 2 + 52 - m.log2 = k + 52 := ⟨54 - m.log2, by omega⟩
    simp only [hk]
    have d1 : m <<< (k + 52) = m * 2 ^ k * 4503599627370496 := by
      rw [Nat.shiftLeft_eq, Nat.pow_add, ← Nat.mul_assoc]
    rw [d1, Nat.mul_div_cancel _ (by decide), Nat.mul_mod_left]
    show some (FloatKind.f64.format.nearest _ (2 * (m * 2 ^ k) + 0) _) = _
    rw [(near_rnd _ _ _).1]
    have e3 : 2 * (m * 2 ^ k) + 0 = m * 2 ^ (k + 1) := by rw [Nat.pow_succ, Nat.add_zero, ← Nat.mul_assoc m, Nat.mul_comm 2]
    have e4 : ((p : Int) - 1074 - -51 - ((k + 52 : Nat) : Int) - 1) = ((p : Int) - 1075) - ((k + 1 : Nat) : Int) := by omega
    rw [e3, e4, rndM_sc]
    congr 2
    cases decide (9223372036854775808 ≤ x) <;> rfl
  have fin : ∀ r, r < 9218868437227405312 → (2 * nv r = nv (x % 9223372036854775808) ∨ 2 * nv r = nv (x % 9223372036854775808) + 1 ∨ 2 * nv r + 1 = nv (x % 9223372036854775808)) → ∀ q, q = signN (decide (9223372036854775808 ≤ x)) r → q < 18446744073709551616 ∧ q % 9223372036854775808 < 9218868437227405312 ∧ (2 * sv q = sv x ∨ 2 * sv q = sv x + 1 ∨ 2 * sv q = sv x - 1) := by
    intro r hr hv q hq
    obtain ⟨a1, a2, a3⟩ := signN_mod (decide (9223372036854775808 ≤ x)) r (by omega)
    rw [← hq] at a1 a2 a3
    refine ⟨a3, by rw [a1]; exact hr, ?_⟩
    have hsg : 9223372036854775808 ≤ q ↔ 9223372036854775808 ≤ x := by
      rw [decide_eq_decide] at a2; exact a2
    unfold sv
    rw [a1]
    by_cases c : 9223372036854775808 ≤ x
    · rw [if_pos (hsg.2 c), if_pos c]; omega
    · rw [if_neg (fun h => c (hsg.1 h)), if_neg c]; omega
  refine ⟨_, key, ?_⟩
  rcases hp with ⟨rfl, hm2⟩ | ⟨hp1, hm1, hxm⟩
  · have hnx : nv (x % 9223372036854775808) = m := by rw [← hm2, nv_small m (by omega)]
    by_cases h0 : m = 0
    · refine fin 0 (by decide) (Or.inl ?_) _ (by rw [h0]; unfold rndM; rw [if_pos rfl])
      rw [hnx, h0, nv_zero]
    · obtain ⟨_, _, _, h4⟩ := step_near m 1
      rw [Nat.pow_one] at h4
      have hs : stepN m 1 0 false ≤ 4503599627370496 := by
        rcases h4 with h4 | ⟨h4, _⟩ <;> omega
      refine fin (stepN m 1 0 false) (by omega) ?_ _ (by rw [← rnd_odd m h0 hm]; rfl)
      rw [hnx, nv_small _ (by omega)]
      rcases h4 with h4 | ⟨h4, h5⟩ <;> omega
  · obtain ⟨P, rfl⟩ : ∃ P, p = P + 1 := ⟨p - 1, by omega⟩
    have hr1 : P * 4503599627370496 + m < 9218868437227405312 := by omega
    have hw := nv_word P m (by omega) (fun _ => hm1)
    have hwx := nv_word (P + 1) m (by omega) (fun _ => hm1)
    have hn := nearest_nv false m P (P * 4503599627370496 + m) (by omega) hr1 (by rw [hw])
    have hr : rndM m (((P + 1 : Nat) : Int) - 1075) = P * 4503599627370496 + m := by
      have := (near_rnd false m ((P : Int) - 1074)).1
      rw [hn, word_false] at this
      have e : ((P + 1 : Nat) : Int) - 1075 = (P : Int) - 1074 := by omega
      rw [e, this]
      rfl
    refine fin (P * 4503599627370496 + m) hr1 (Or.inl ?_) _ (by rw [hr])
    rw [hw, hxm, hwx, Nat.pow_succ, ← Nat.mul_assoc m, Nat.mul_comm 2]
end Go.Proofs.YtehnkgonhgjeiaaGreatDoor
