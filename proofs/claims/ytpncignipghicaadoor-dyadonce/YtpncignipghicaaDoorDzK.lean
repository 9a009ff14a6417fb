
/- dyad's Round by the nearest is the rounding of its value. -/
import Derived.Test.YtpncignipghicaaDoorDzJ
namespace Go.Proofs.YtpncignipghicaaDoor
open Go.RowKit Go.IntWalk

/-- Of an odd number's rest. -/
theorem rest_odd (m s : Nat) (h : m % 2 = 1) (hs : 1 ≤ s) : restN m s = restV m s + 1 := by
  obtain ⟨t, rfl⟩ : ∃ t, s = t + 1 := ⟨s - 1, by omega⟩
  unfold restN restV
  rw [Nat.add_sub_cancel]
  have hp : 2 ^ (t + 1) = 2 * 2 ^ t := by rw [Nat.pow_succ, Nat.mul_comm]
  have hm : m % 2 ^ (t + 1) = m % 2 ^ t + 2 ^ t * (m / 2 ^ t % 2) := by rw [Nat.pow_succ, Nat.mod_mul]
  have hpos := Nat.two_pow_pos t
  have hlt : m % 2 ^ t < 2 ^ t := Nat.mod_lt _ hpos
  by_cases h1 : t = 0
  · subst h1
    have e1 : m % 2 ^ (0 + 1) = 1 := by simpa using h
    rw [e1, if_neg (by decide), if_pos rfl]
    rfl
  · have hr : m % 2 ^ t ≠ 0 := by
      obtain ⟨k, rfl⟩ : ∃ k, t = k + 1 := ⟨t - 1, by omega⟩
      intro c
      have : m % 2 ^ (k + 1) % 2 = m % 2 := Nat.mod_mod_of_dvd _ ⟨2 ^ k, by rw [Nat.pow_succ, Nat.mul_comm]⟩
      rw [c] at this
      omega
    rw [if_neg (show ¬ t + 1 = 1 by omega), hm, hp]
    rcases (show m / 2 ^ t % 2 = 0 ∨ m / 2 ^ t % 2 = 1 by omega) with hb | hb
    · rw [hb, Nat.mul_zero, Nat.add_zero, if_neg hr, if_pos (by omega), if_neg (by decide)]
    · rw [hb, Nat.mul_one, if_neg (by omega), if_neg (by omega), if_neg (by omega), if_pos rfl]
theorem near_step (m s : Nat) (h : m % 2 = 1) (hs : 1 ≤ s) : stepQ m (s : Int) 0 false = nearV m s := by
  have q : cutQ m (s : Int) = m / 2 ^ s := by unfold cutQ; rw [if_neg (by omega), Int.toNat_natCast]
  have r : cutR m (s : Int) = restV m s + 1 := by unfold cutR; rw [if_neg (by omega), Int.toNat_natCast, rest_odd m s h hs]
  unfold stepQ nearV
  rw [q, r]
  have hl : restV m s ≤ 2 := by unfold restV; split <;> (try split) <;> omega
  congr 1
  by_cases c : restV m s = 2 ∨ restV m s = 1 ∧ m / 2 ^ s % 2 = 1
  · rw [if_pos c, if_pos]
    refine ⟨by omega, ?_⟩
    rcases c with c | ⟨c, d⟩
    · rw [c]; simp [growsOf]
    · rw [c, d]; simp [growsOf]
  · rw [if_neg c, if_neg]
    rintro ⟨_, g⟩
    apply c
    rcases (show restV m s = 0 ∨ restV m s = 1 ∨ restV m s = 2 by omega) with r | r | r
    · rw [r] at g; simp [growsOf] at g
    · rw [r] at g
      refine Or.inr ⟨r, ?_⟩
      simpa [growsOf] using g
    · exact Or.inl r
theorem round0_any (neg : Bool) (L : List Nat) (a : Option Addr) (cap : Nat) (e : Int) (w : World) (hm : MagAt w a L) (hd : DigL L) (hc : CanL L) (hmay : DyMay neg L e) (hodd : natL L % 2 = 1) (hn : L.length ≤ 201) (he1 : -3000 ≤ e) (htop : e + (bitLen (natL L) : Int) ≤ 2900) (he2 : e ≤ 2900) (hT : Tab w) (hg : 2 < w.heap.size) :
    Calls Tryd.prog 50 #[.agg #[.bool neg, .slice a L.length cap, .int .i64 e], .agg #[.int .i64 53, .int .i64 (-1074), .int .i64 1023], .int .i64 0] w fun r w' => r = .returned (.tuple #[.float .f64 (signN neg (rMag 53 (-1022) 1023 (natL L) e 0 false)), .int .i64 0]) ∧ Below w.heap.size w w' := by
  have h0 : natL L ≠ 0 := by omega
  have hl1 : 1 ≤ L.length := by
    apply Classical.byContradiction
    intro c
    have : L = [] := List.length_eq_zero_iff.1 (by omega)
    rw [this] at h0
    exact h0 rfl
  have hbl : bitLen (natL L) ≤ 32 * 201 := by
    have := natL_lt L hd
    rw [pow32] at this
    have h2 := bitLen_le (natL L) _ this
    omega
  have hbp := bitLen_pos h0
  obtain ⟨u, hu⟩ : ∃ u, rUnit 53 (-1022) (natL L) e = u := ⟨_, rfl⟩
  have hu2 : max (e + (bitLen (natL L) : Int) - 1 - 53 + 1) (-1074) = u := by rw [← hu]; unfold rUnit rTop; omega
  obtain ⟨M, hM⟩ : ∃ M, rSteps 53 (-1022) (natL L) e 0 false = M := ⟨_, rfl⟩
  have hMs : stepQ (natL L) (u - e) 0 false = M := by rw [← hM]; unfold rSteps; rw [hu]
  have hMle : M ≤ 9007199254740992 := by
    have := rSteps_le 53 (-1022) (natL L) e 0 false 53 rfl
    have e53 : (2 : Nat) ^ 53 = 9007199254740992 := by decide
    omega
  have hK : bitLen M ≤ 54 := by
    have e54 : (2 : Nat) ^ 54 = 18014398509481984 := by decide
    exact bitLen_le M 54 (by omega)
  have hst : ∃ bd, bd ≤ 100000 ∧ StepsTo w neg a L.length cap e u M bd := by
    by_cases hc1 : 1 ≤ u - e
    · obtain ⟨s, hs⟩ := Int.eq_ofNat_of_zero_le (show 0 ≤ u - e by omega)
      rw [hs, near_step _ s hodd (by omega)] at hMs
      rw [← hMs]
      exact ⟨_, by omega, steps_to_near neg L a cap s e u w hm hd (by omega) hl1 hs (by omega) (by omega)⟩
    · obtain ⟨s, hs⟩ := Int.eq_ofNat_of_zero_le (show 0 ≤ e - u by omega)
      have e1 : stepQ (natL L) (u - e) 0 false = natL L * 2 ^ s := by
        have q : cutQ (natL L) (u - e) = natL L * 2 ^ s := by unfold cutQ; rw [if_pos (by omega), show (-(u - e)).toNat = s by omega]
        have r : cutR (natL L) (u - e) = 0 := by unfold cutR; rw [if_pos (by omega)]
        unfold stepQ
        rw [q, r, if_neg (fun c => c.1 rfl), Nat.add_zero]
      rw [← hMs, e1]
      exact ⟨_, by omega, steps_to_left neg L a cap s e u w hm hd (by omega) hs (by omega)⟩
  obtain ⟨bd, hbd, hst⟩ := hst
  by_cases ho : rOver 53 (-1022) 1023 (natL L) e 0 false
  · have er : rMag 53 (-1022) 1023 (natL L) e 0 false = 9218868437227405312 := by
      unfold rMag
      rw [if_pos ho]
      rfl
    rw [er]
    unfold rOver at ho
    rw [hu, hM] at ho
    exact round_far neg L a cap M bd e u w hm hd hc hmay (by omega) hu2 hst hbd (by omega) ho (by omega) (by omega) (by omega) hT hg
  · have er : rMag 53 (-1022) 1023 (natL L) e 0 false = wMag M u := by
      unfold rMag
      rw [if_neg ho, hu, hM]
    rw [er]
    unfold rOver at ho
    rw [hu, hM] at ho
    exact round_fin neg L a cap M bd e u w hm hd hc hmay (by omega) hu2 hst hbd hMle (by omega) (by omega) (by omega) (by omega) hT hg
end Go.Proofs.YtpncignipghicaaDoor
