
/- What the document's Round does with a whole number and nothing below it. (Written by mkr2r.py.) -/
import Derived.Test.YtpgcelbgmpfliaaGreatDoorV31
namespace Go.Proofs.YtpgcelbgmpfliaaGreatDoor
open Go.RowKit Go.IntWalk

/-- The document's magnitude. -/
def docR32 (m : Nat) (e mode : Int) (neg : Bool) : Nat := @ite Nat (rOver 24 (-126) 127 m e mode neg) (rOverD 24 (-126) 127 m e mode neg) (overM32 neg mode) (docMag 24 (-149) (rSteps 24 (-126) m e mode neg) (rUnit 24 (-126) m e))
set_option maxHeartbeats 8000000 in
theorem Round32_any (neg : Bool) (M m bd : Nat) (e mode : Int) (w : World) (hm : NumAt w M m bd) (h0 : m ≠ 0) (hb : bd ≤ 30000) (he1 : -100000 ≤ e) (he2 : e ≤ 100000) :
    Calls Tryz.prog 60 #[.agg #[.int .i64 24, .int .i64 (-126), .int .i64 127, .int .i64 8], .bool neg, .pointer (some ⟨M, 0, none⟩), .int .i64 e, .bool false, .int .i64 mode] w fun r w' => r = .returned (.tuple #[.int .u64 (signN32 neg (docR32 m e mode neg)), .int .i64 (rFlag 24 (-126) 127 m e mode neg)]) ∧ Below w.heap.size w w' := by
  -- the letters
  have hlm : bitLen m ≤ 32 * bd := by
    obtain ⟨L, rfl, hL, hB⟩ := num_pos hm
    obtain ⟨a, cap, ho, hcap, hmm, hd, hc, hn⟩ := hB
    have h1 := natL_lt L hd
    rw [pow32] at h1
    exact bitLen_le _ _ (Nat.lt_of_lt_of_le h1 (Nat.pow_le_pow_right (by decide) (by omega)))
  have hl1 := bitLen_pos h0
  obtain ⟨l, hl⟩ : ∃ l, Hid (bitLen m = l) := ⟨_, rfl⟩
  obtain ⟨T, hTT⟩ : ∃ T, Hid (rTop m e = T) := ⟨_, rfl⟩
  have hT1 : e + (l : Int) - 1 = T := by have := hTT.out; unfold rTop at this; rw [hl.out] at this; exact this
  obtain ⟨u, hu⟩ : ∃ u, Hid (rUnit 24 (-126) m e = u) := ⟨_, rfl⟩
  have hu1 : max T (-126) - 24 + 1 = u := by have := hu.out; unfold rUnit at this; rw [hTT.out] at this; exact this
  have hsl := rSteps_le 24 (-126) m e mode neg 24 rfl
  have hso : stepQ m (u - e) mode neg = rSteps 24 (-126) m e mode neg := by unfold rSteps; rw [hu.out]
  obtain ⟨S, hS⟩ : ∃ S, Hid (rSteps 24 (-126) m e mode neg = S) := ⟨_, rfl⟩
  obtain ⟨bl, hbl⟩ : ∃ bl, Hid (bitLen S = bl) := ⟨_, rfl⟩
  rw [hS.out] at hsl hso
  rw [hl.out] at hlm hl1
  have hblle : bl ≤ 24 + 1 := by
    have := bitLen_le S (24 + 1) (Nat.lt_of_le_of_lt hsl (by decide))
    rw [hbl.out] at this
    exact this
  have hcr : cutR m (rUnit 24 (-126) m e - e) = cutR m (u - e) := by rw [hu.out]
  have hro : rOver 24 (-126) 127 m e mode neg ↔ (127 : Int) < u + (bl : Int) - 1 := by unfold rOver; rw [hS.out, hu.out, hbl.out]
  have HHALF : Hid (24 < bl → bitLen (S / 2) = 24 ∧ bl = 24 + 1) := by
    intro h
    have h2 : S = 2 ^ 24 := by
      have h3 : ¬ S < 2 ^ 24 := fun c => by have := bitLen_le S 24 c; rw [hbl.out] at this; omega
      omega
    refine ⟨?_, by omega⟩
    rw [h2, half_pow 24 (by decide), bitLen_pow]
  obtain ⟨V, hV⟩ : ∃ V, Hid (signN32 neg (docR32 m e mode neg) = V) := ⟨_, rfl⟩
  obtain ⟨FL, hFL⟩ : ∃ FL, Hid (rFlag 24 (-126) 127 m e mode neg = FL) := ⟨_, rfl⟩
  have HVO : Hid ((127 : Int) < u + (bl : Int) - 1 → (V : Int) = (signN32 neg (overM32 neg mode) : Int) ∧ FL = 5) := by
    intro h
    rw [← hV.out, ← hFL.out]
    unfold docR32 rFlag
    rw [if_pos (hro.2 h), if_pos (hro.2 h)]
    exact ⟨rfl, rfl⟩
  have HVN : Hid (u + (bl : Int) - 1 ≤ 127 → V = signN32 neg (docMag 24 (-149) S u) ∧ FL = if cutR m (u - e) = 0 then 0 else if T < (-126) then 3 else 1) := by
    intro h'
    have h : ¬ (127 : Int) < u + (bl : Int) - 1 := by omega
    rw [← hV.out, ← hFL.out]
    unfold docR32 rFlag
    rw [if_neg (fun c => h (hro.1 c)), if_neg (fun c => h (hro.1 c)), hS.out, hu.out, hTT.out]
    exact ⟨rfl, rfl⟩
  have HDC : Hid (24 < bl → docMag 24 (-149) S u = packN32 (u + 1 - (-149) + 1).toNat (S / 2 % 8388608)) := by
    intro h
    have e1 : docS 24 S = S / 2 := by unfold docS; rw [hbl.out, if_pos h]
    have e2 : docU 24 S u = u + 1 := by unfold docU; rw [hbl.out, if_pos h]
    unfold docMag
    rw [e1, e2, (HHALF.out h).1, if_neg (by decide)]
    rfl
  have HDS : Hid (¬ 24 < bl → bl < 24 → docMag 24 (-149) S u = packN32 0 S) := by
    intro h h'
    have e1 : docS 24 S = S := by unfold docS; rw [hbl.out, if_neg h]
    unfold docMag
    rw [e1, hbl.out, if_pos h']
    unfold packN32
    omega
  have HDN : Hid (¬ 24 < bl → ¬ bl < 24 → docMag 24 (-149) S u = packN32 (u - (-149) + 1).toNat (S % 8388608)) := by
    intro h h'
    have e1 : docS 24 S = S := by unfold docS; rw [hbl.out, if_neg h]
    have e2 : docU 24 S u = u := by unfold docU; rw [hbl.out, if_neg h]
    unfold docMag
    rw [e1, e2, hbl.out, if_neg h']
    rfl
  have HSub : Hid (bl < 24 → S < 8388608) := by
    intro h
    have h1 := bitLen_hi S
    rw [hbl.out] at h1
    have h2 : 2 ^ bl ≤ 2 ^ 23 := Nat.pow_le_pow_right (by decide) (by omega)
    have h3 : (2 : Nat) ^ 23 = 8388608 := by decide
    omega
  have HS64 : Hid (S < 18446744073709551616) := by
    have : (2 : Nat) ^ 24 < 18446744073709551616 := by decide
    show S < _
    omega
  have HBLLE := hid hblle
  rw [hV.out, hFL.out]
  have HM := hid hm
  have HB := hid hb
  have hmlt := hm.lt
  have HLm : Hid (∀ w : World, NumAt w M m bd → Calls Tryz.prog 104 #[.pointer (some ⟨M, 0, none⟩)] w fun r w' => r = .returned (.int .i64 l) ∧ ∃ k, w' = w.drewN k) := fun w h => by
    have := NBitLen M m bd w h (by omega)
    rw [Int.natAbs_natCast, hl.out] at this
    exact this
  have hu4 : max (T - 24 + 1) (-149) = u := by omega
  have hTb1 : -200000 ≤ T := by omega
  have hTb2 : T ≤ 2000000 := by omega
  have hlb : (l : Int) ≤ 960000 := by omega
  have hub1 : (-149) ≤ u := by omega
  have hub2 : u ≤ 2000000 := by omega
  have h12 : bits .or .i64 1 2 = 3 := by decide +kernel
  by_cases hcut : u ≤ e
  · -- nothing is cut off
    obtain ⟨n, hn⟩ : ∃ n : Nat, Hid (e - u = (n : Int)) := ⟨(e - u).toNat, by show e - u = _; omega⟩
    have hn53 : n ≤ 24 := by have := hn.out; omega
    have hSv : m * 2 ^ n = S := by
      rw [← hso, stepQ_goes]
      have h1 : cutR m (u - e) = 0 := by unfold cutR; rw [if_pos (by omega)]
      have h2 : goesOf neg (decide (cutQ m (u - e) % 2 = 1)) (cutR m (u - e)) mode = false := by rw [h1]; rfl
      rw [h2, if_neg (by decide), Nat.add_zero]
      unfold cutQ
      rw [if_pos (by omega)]
      congr 2
      have := hn.out
      omega
    have hnb : (n : Int) ≤ 100 := by omega
    have hwn2 : IntKind.u64.wrap (n : Int) = (n : Int) := by rw [IntKind.wrap_u64]; omega
    have hwn3 : IntKind.i64.wrap (n : Int) = (n : Int) := by rw [IntWalk.i64_in _ (by omega)]
    have HN53 := hid hn53
    have HSV := hid hSv
    have HCUT := hid hcut
    have HCR0 : Hid (cutR m (u - e) = 0) := by show cutR m (u - e) = 0; unfold cutR; rw [if_pos (by omega)]
    have hn' := hn.out
    clear hm hb hsl hso hcr hro hl1 hlm hu1 hn53 hSv h0 hblle
    go_enter Tryz.func60, Tryz.ntmps60
    go_wp2_with fail
    refine (HLm.out _ (HM.out.al _)).mono ?_
    rintro r w1 ⟨rfl, k1, rfl⟩
    go_wp2_with fail
    refine (NSet (w.heap.size + 1) M m bd _ (fresh_zok' _ _ (by simp [World.drewN])) (((HM.out.al _).draw _).al _) (by have := HB.out; omega)).mono ?_
    rintro r w2 ⟨rfl, h2, b2⟩
    have HN2 := hid h2
    have HF2 : Hid (Below (w.heap.size + 1) (w.alloc (.cells #[.int .i64 24, .int .i64 (-126), .int .i64 127, .int .i64 8] 66)) w2) := (fB (bl_al (bl_drewN _ (Below.refl _ _)) _)).trans (b2.below (by simp [World.drewN]) (Nat.le_refl _))
    clear h2 b2
    go_wp2_with fail
    refine (NLsh (w.heap.size + 1) (w.heap.size + 1) m n bd w2 HN2.out.zok HN2.out (by have := HB.out; omega) (by have := HN53.out; omega)).mono ?_
    rintro r w3 ⟨rfl, h3, b3⟩
    have hcast : (m : Int) * 2 ^ n = (S : Int) := by rw [← HSV.out, Int.natCast_mul, Int.natCast_pow]; rfl
    rw [hcast] at h3
    obtain ⟨bd3, hbd3⟩ : ∃ bd3, Hid (n / 32 + bd + 1 = bd3) := ⟨_, rfl⟩
    have HBD : Hid (bd3 ≤ 900000) := by have := hbd3.out; have := HB.out; have := HN53.out; show bd3 ≤ 900000; omega
    rw [hbd3.out] at h3
    have HN3 := hid h3
    have HF3 : Hid (Below (w.heap.size + 1) (w.alloc (.cells #[.int .i64 24, .int .i64 (-126), .int .i64 127, .int .i64 8] 66)) w3) := HF2.out.trans (b3.below (by have := HF2.out.size; simp at this; omega) (Nat.le_refl _))
    clear h3 b3 hcast
    go_wp2_with fail
    have HG : Hid (Calls Tryz.prog 101 #[.bool neg, .pointer (some ⟨w.heap.size + 1, 0, none⟩), .int .i64 (-2), .int .i64 mode] w3 fun r w' => r = .returned (.bool false) ∧ Below w3.heap.size w3 w') := goesUp_any neg (w.heap.size + 1) S bd3 0 mode w3 HN3.out HBD.out (by decide)
    refine HG.out.mono ?_
    rintro r w4 ⟨rfl, b4⟩
    have HN := hid (HN3.out.below b4)
    have HF : Hid (Below (w.heap.size + 1) (w.alloc (.cells #[.int .i64 24, .int .i64 (-126), .int .i64 127, .int .i64 8] 66)) w4) := fC HF3.out b4 (by have := HF3.out.size; simp at this; omega)
    have hqq : w.heap.size + 1 ≤ w.heap.size + 1 := Nat.le_refl _
    have HVF : Hid (u + (bl : Int) - 1 ≤ 127 → V = signN32 neg (docMag 24 (-149) S u) ∧ FL = 0) := fun h => by
      obtain ⟨a1, a2⟩ := HVN.out h
      rw [if_pos HCR0.out] at a2
      exact ⟨a1, a2⟩
    clear b4 HG HVN
    obtain ⟨c0, c1, c2, c3⟩ := fcells HF.out
    have HBL := quiet_len (w.heap.size + 1) S bd3 bl HBD.out hbl.out
    go_wp2_with fail
    go_quiet (first | (go_at_call 104; exact Calls.quiet_of (HBL.out _ HN.out _)))
    by_cases hcar : 24 < bl
    · have HCAR := hid hcar
      have hcarI : (24 : Int) < (bl : Int) := by omega
      clear hcar
      go_wp2_with fail
      refine (NRsh (w.heap.size + 1) (w.heap.size + 1) S 1 bd3 _ (HN.out.draw _).zok (HN.out.draw _) HBD.out (by decide)).mono ?_
      rintro r w8 ⟨rfl, h8, b8⟩
      have HN8 : Hid (NumAt w8 (w.heap.size + 1) ((S / 2 : Nat) : Int) bd3) := h8
      have HF8 : Hid (Below (w.heap.size + 1) (w.alloc (.cells #[.int .i64 24, .int .i64 (-126), .int .i64 127, .int .i64 8] 66)) w8) := (below_drewN HF.out _).trans (b8.below (by have := HF.out.size; simp [World.drewN] at this ⊢; omega) hqq)
      clear h8 b8 c0 c1 c2 c3
      obtain ⟨c0, c1, c2, c3⟩ := fcells HF8.out
      obtain ⟨h2a, h2b⟩ := HHALF.out HCAR.out
      obtain ⟨p', hp'⟩ : ∃ p' : Nat, Hid (24 = p') := ⟨_, rfl⟩
      have HBL8 := quiet_len (w.heap.size + 1) (S / 2) bd3 p' HBD.out (h2a.trans hp'.out)
      obtain ⟨u', hu'⟩ : ∃ u', Hid (u + 1 = u') := ⟨_, rfl⟩
      have hu'1 : u + 1 = u' := hu'.out
      have hu'2 : IntKind.i64.wrap (u + 1) = u' := by rw [IntWalk.i64_in _ (by omega)]; exact hu'1
      have hu'3 : IntKind.i64.wrap u' = u' := by rw [IntWalk.i64_in _ (by omega)]
      have hpb : p' ≤ 100 := by have := hp'.out; omega
      have HUB : Hid (u' + (p' : Int) = u + (bl : Int)) := by have := hp'.out; show u' + (p' : Int) = u + (bl : Int); omega
      have HLP : Hid (24 ≤ p') := by have := hp'.out; show 24 ≤ p'; omega
      clear h2a h2b
      go_wp2_with fail
      go_quiet (first | (go_at_call 104; first | exact Calls.quiet_of (HBL8.out _ HN8.out _) | exact quiet_of2 (HBL8.out _ HN8.out _)))
      by_cases hov : (127 : Int) < u' + (p' : Int) - 1
      · have HOV : Hid ((127 : Int) < u + (bl : Int) - 1) := by have h2 := HUB.out; show (127 : Int) < u + (bl : Int) - 1; omega
        go_wp2_with fail
        refine (over32_any neg mode _).mono ?_
        rintro r w9 ⟨rfl, b9⟩
        go_wp2
        go_ret2
        exact ⟨ret_uf (HVO.out HOV.out).1.symm (HVO.out HOV.out).2.symm, bl_then (by repeat (first | exact bl_B HF8.out | refine bl_drewN _ ?_)) b9⟩
      · have HOV : Hid (u + (bl : Int) - 1 ≤ 127) := by have h2 := HUB.out; show u + (bl : Int) - 1 ≤ 127; omega
        go_wp2_with fail
        go_quiet (first | (go_at_call 104; exact quiet_of2 (HBL8.out _ HN8.out _)))
        have hsubI : ¬ (p' : Int) < 24 := by have := hp'.out; omega
        have hX : u' - (-149) + 1 = (((u' - (-149) + 1).toNat : Nat) : Int) := by omega
        obtain ⟨X, hXX⟩ : ∃ X, Hid ((u' - (-149) + 1).toNat = X) := ⟨_, rfl⟩
        have hXc : (u' - (-149) + 1).toNat = X := hXX.out
        rw [hXc] at hX
        have hX2 : u' + 149 + 1 = (X : Int) := by omega
        have hX3 : u' + 150 = (X : Int) := by omega
        have HXL : Hid (X < 256) := by have h1 := hXc; have h2 := HOV.out; have h3 := HUB.out; have h4 := HLP.out; show X < 256; omega
        obtain ⟨s2, hs2⟩ : ∃ s2 : Nat, Hid ((S / 2) = s2) := ⟨_, rfl⟩
        have HS2 : Hid (s2 < 18446744073709551616) := by rw [← hs2.out]; have := HS64.out; show (S / 2) < _; omega
        have hmask : bits .and .u64 (s2 : Int) 8388607 = ((s2 % 8388608 : Nat) : Int) := and_mask s2 23 HS2.out (by decide)
        obtain ⟨f, hff⟩ : ∃ f, Hid (s2 % 8388608 = f) := ⟨_, rfl⟩
        have HFW : Hid (f < 8388608) := by rw [← hff.out]; exact Nat.mod_lt _ (by decide)
        rw [hff.out] at hmask
        have hmk : IntKind.u64.wrap (IntKind.u64.wrap (2 ^ min (IntKind.u64.wrap (IntKind.i64.wrap 23)).toNat 64) - 1) = 8388607 := by decide +kernel
        have HEQ : Hid ((V : Int) = (signN32 neg (packN32 X f) : Int) ∧ FL = 0) := by
          obtain ⟨a1, a2⟩ := HVF.out HOV.out
          rw [HDC.out HCAR.out, hu'.out, hXc, hs2.out, hff.out] at a1
          exact ⟨by rw [a1], a2⟩
        obtain ⟨y, hy⟩ : ∃ y, Hid (signN32 neg (packN32 X f) = y) := ⟨_, rfl⟩
        rw [hy.out] at HEQ
        have HK : Hid (∀ w', Hid (Below (w.heap.size + 1) (w.alloc (.cells #[.int .i64 24, .int .i64 (-126), .int .i64 127, .int .i64 8] 66)) w' ∧ NumAt w' (w.heap.size + 1) (((S / 2) : Nat) : Int) bd3) → (w'.cell? ⟨w.heap.size, 0, none⟩ = some (.int .i64 24) ∧ w'.cell? ⟨w.heap.size, 1, none⟩ = some (.int .i64 (-126)) ∧ w'.cell? ⟨w.heap.size, 2, none⟩ = some (.int .i64 127) ∧ w'.cell? ⟨w.heap.size, 3, none⟩ = some (.int .i64 8)) ∧ Hid (Below (w.heap.size + 1) (w.alloc (.cells #[.int .i64 24, .int .i64 (-126), .int .i64 127, .int .i64 8] 66)) w' ∧ NumAt w' (w.heap.size + 1) (((S / 2) : Nat) : Int) bd3)) := fun w' h => ⟨fcells h.out.1, h⟩
        have HQ1 : Hid (∀ k, Hid (Below (w.heap.size + 1) (w.alloc (.cells #[.int .i64 24, .int .i64 (-126), .int .i64 127, .int .i64 8] 66)) (w8.drewN k).drew ∧ NumAt (w8.drewN k).drew (w.heap.size + 1) (((S / 2) : Nat) : Int) bd3)) := fun k => ⟨Below.drew (below_drewN HF8.out k), NumAt.drew (NumAt.draw HN8.out k)⟩
        have HQ2 : Hid (∀ k, Hid (Below (w.heap.size + 1) (w.alloc (.cells #[.int .i64 24, .int .i64 (-126), .int .i64 127, .int .i64 8] 66)) (w8.drewN k) ∧ NumAt (w8.drewN k) (w.heap.size + 1) (((S / 2) : Nat) : Int) bd3)) := fun k => ⟨below_drewN HF8.out k, NumAt.draw HN8.out k⟩
        have HQ3 : Hid (∀ k j, Hid (Below (w.heap.size + 1) (w.alloc (.cells #[.int .i64 24, .int .i64 (-126), .int .i64 127, .int .i64 8] 66)) (((w8.drewN k).drewN j).drew) ∧ NumAt (((w8.drewN k).drewN j).drew) (w.heap.size + 1) (((S / 2) : Nat) : Int) bd3)) := fun k j => ⟨Below.drew (below_drewN (below_drewN HF8.out k) j), NumAt.drew (NumAt.draw (NumAt.draw HN8.out k) j)⟩
        have HNU : Hid (∀ w', Hid (Below (w.heap.size + 1) (w.alloc (.cells #[.int .i64 24, .int .i64 (-126), .int .i64 127, .int .i64 8] 66)) w' ∧ NumAt w' (w.heap.size + 1) (((S / 2) : Nat) : Int) bd3) → Calls Tryz.prog 69 #[.pointer (some ⟨(w.heap.size + 1), 0, none⟩)] w' fun r w1 => r = .returned (.int .u64 s2) ∧ w1 = w') := fun w' h => by
          rw [← hs2.out]; exact NUint64 (w.heap.size + 1) (S / 2) bd3 w' h.out.2 (by have := HS64.out; omega)
        have HPU : Hid (∀ w', Hid (Below (w.heap.size + 1) (w.alloc (.cells #[.int .i64 24, .int .i64 (-126), .int .i64 127, .int .i64 8] 66)) w' ∧ NumAt w' (w.heap.size + 1) (((S / 2) : Nat) : Int) bd3) → Calls Tryz.prog 103 #[.agg #[.int .i64 24, .int .i64 (-126), .int .i64 127, .int .i64 8], .bool neg, .int .i64 X, .int .u64 f] w' fun r w1 => r = .returned (.int .u64 y) ∧ Hid (Below (w.heap.size + 1) (w.alloc (.cells #[.int .i64 24, .int .i64 (-126), .int .i64 127, .int .i64 8] 66)) w1 ∧ NumAt w1 (w.heap.size + 1) (((S / 2) : Nat) : Int) bd3)) := fun w' h => by
          rw [← hy.out]
          refine (put32_any neg X f w' HXL.out HFW.out).mono ?_
          rintro r w1 ⟨rfl, T, rfl⟩
          exact ⟨rfl, fC h.out.1 (al_below _ _) (by have := h.out.1.size; simp at this; omega), h.out.2.al _⟩
        go_wp2_with fail
        go_region_held3 (fun w' => (w'.cell? ⟨w.heap.size, 0, none⟩ = some (.int .i64 24) ∧ w'.cell? ⟨w.heap.size, 1, none⟩ = some (.int .i64 (-126)) ∧ w'.cell? ⟨w.heap.size, 2, none⟩ = some (.int .i64 127) ∧ w'.cell? ⟨w.heap.size, 3, none⟩ = some (.int .i64 8)) ∧ Hid (Below (w.heap.size + 1) (w.alloc (.cells #[.int .i64 24, .int .i64 (-126), .int .i64 127, .int .i64 8] 66)) w' ∧ NumAt w' (w.heap.size + 1) (((S / 2) : Nat) : Int) bd3)) (exact HK.out _ (by first | assumption | exact HQ1.out _ | exact HQ2.out _ | exact HQ3.out _ _))
          (first
            | (go_at_call 69; refine (HNU.out _ (by first | exact HQ2.out _ | exact And.right (by assumption))).mono ?_; rintro r w9 ⟨rfl, rfl⟩)
            | (go_at_call 103; refine (HPU.out _ (by first | exact HQ2.out _ | exact And.right (by assumption))).mono ?_; rintro r w9 ⟨rfl, HE9⟩))
        all_goals go_wp2
        all_goals go_ret2
        all_goals exact ⟨ret_uf HEQ.out.1.symm HEQ.out.2.symm, bl_B HE9.out.1⟩
    · have HCAR := hid hcar
      have hcarI : ¬ (24 : Int) < (bl : Int) := by omega
      have HUB : Hid (u + (bl : Int) = u + (bl : Int)) := rfl
      have hpb : bl ≤ 100 := by have := HBLLE.out; omega
      clear hcar
      go_wp2_with fail
      go_quiet (first | (go_at_call 104; first | exact Calls.quiet_of (HBL.out _ HN.out _) | exact quiet_of2 (HBL.out _ HN.out _)))
      by_cases hov : (127 : Int) < u + (bl : Int) - 1
      · have HOV : Hid ((127 : Int) < u + (bl : Int) - 1) := by have h2 := HUB.out; show (127 : Int) < u + (bl : Int) - 1; omega
        go_wp2_with fail
        refine (over32_any neg mode _).mono ?_
        rintro r w9 ⟨rfl, b9⟩
        go_wp2
        go_ret2
        exact ⟨ret_uf (HVO.out HOV.out).1.symm (HVO.out HOV.out).2.symm, bl_then (by repeat (first | exact bl_B HF.out | refine bl_drewN _ ?_)) b9⟩
      · have HOV : Hid (u + (bl : Int) - 1 ≤ 127) := by have h2 := HUB.out; show u + (bl : Int) - 1 ≤ 127; omega
        go_wp2_with fail
        go_quiet (first | (go_at_call 104; exact quiet_of2 (HBL.out _ HN.out _)))
        by_cases hsub : bl < 24
        · have hsubI : (bl : Int) < 24 := by omega
          have HSL : Hid (S < 8388608) := HSub.out hsub
          have HEQ : Hid ((V : Int) = (signN32 neg (packN32 0 S) : Int) ∧ FL = 0) := by
            obtain ⟨a1, a2⟩ := HVF.out HOV.out
            rw [HDS.out HCAR.out hsub] at a1
            exact ⟨by rw [a1], a2⟩
          obtain ⟨y, hy⟩ : ∃ y, Hid (signN32 neg (packN32 0 S) = y) := ⟨_, rfl⟩
          rw [hy.out] at HEQ
          clear hsub
          have HK : Hid (∀ w', Hid (Below (w.heap.size + 1) (w.alloc (.cells #[.int .i64 24, .int .i64 (-126), .int .i64 127, .int .i64 8] 66)) w' ∧ NumAt w' (w.heap.size + 1) ((S : Nat) : Int) bd3) → (w'.cell? ⟨w.heap.size, 0, none⟩ = some (.int .i64 24) ∧ w'.cell? ⟨w.heap.size, 1, none⟩ = some (.int .i64 (-126)) ∧ w'.cell? ⟨w.heap.size, 2, none⟩ = some (.int .i64 127) ∧ w'.cell? ⟨w.heap.size, 3, none⟩ = some (.int .i64 8)) ∧ Hid (Below (w.heap.size + 1) (w.alloc (.cells #[.int .i64 24, .int .i64 (-126), .int .i64 127, .int .i64 8] 66)) w' ∧ NumAt w' (w.heap.size + 1) ((S : Nat) : Int) bd3)) := fun w' h => ⟨fcells h.out.1, h⟩
          have HQ1 : Hid (∀ k, Hid (Below (w.heap.size + 1) (w.alloc (.cells #[.int .i64 24, .int .i64 (-126), .int .i64 127, .int .i64 8] 66)) (w4.drewN k).drew ∧ NumAt (w4.drewN k).drew (w.heap.size + 1) ((S : Nat) : Int) bd3)) := fun k => ⟨Below.drew (below_drewN HF.out k), NumAt.drew (NumAt.draw HN.out k)⟩
          have HQ2 : Hid (∀ k, Hid (Below (w.heap.size + 1) (w.alloc (.cells #[.int .i64 24, .int .i64 (-126), .int .i64 127, .int .i64 8] 66)) (w4.drewN k) ∧ NumAt (w4.drewN k) (w.heap.size + 1) ((S : Nat) : Int) bd3)) := fun k => ⟨below_drewN HF.out k, NumAt.draw HN.out k⟩
          have HQ3 : Hid (∀ k j, Hid (Below (w.heap.size + 1) (w.alloc (.cells #[.int .i64 24, .int .i64 (-126), .int .i64 127, .int .i64 8] 66)) (((w4.drewN k).drewN j).drew) ∧ NumAt (((w4.drewN k).drewN j).drew) (w.heap.size + 1) ((S : Nat) : Int) bd3)) := fun k j => ⟨Below.drew (below_drewN (below_drewN HF.out k) j), NumAt.drew (NumAt.draw (NumAt.draw HN.out k) j)⟩
          have HNU : Hid (∀ w', Hid (Below (w.heap.size + 1) (w.alloc (.cells #[.int .i64 24, .int .i64 (-126), .int .i64 127, .int .i64 8] 66)) w' ∧ NumAt w' (w.heap.size + 1) ((S : Nat) : Int) bd3) → Calls Tryz.prog 69 #[.pointer (some ⟨(w.heap.size + 1), 0, none⟩)] w' fun r w1 => r = .returned (.int .u64 S) ∧ w1 = w') := fun w' h => NUint64 (w.heap.size + 1) S bd3 w' h.out.2 HS64.out
          have HPU : Hid (∀ w', Hid (Below (w.heap.size + 1) (w.alloc (.cells #[.int .i64 24, .int .i64 (-126), .int .i64 127, .int .i64 8] 66)) w' ∧ NumAt w' (w.heap.size + 1) ((S : Nat) : Int) bd3) → Calls Tryz.prog 103 #[.agg #[.int .i64 24, .int .i64 (-126), .int .i64 127, .int .i64 8], .bool neg, .int .i64 0, .int .u64 S] w' fun r w1 => r = .returned (.int .u64 y) ∧ Hid (Below (w.heap.size + 1) (w.alloc (.cells #[.int .i64 24, .int .i64 (-126), .int .i64 127, .int .i64 8] 66)) w1 ∧ NumAt w1 (w.heap.size + 1) ((S : Nat) : Int) bd3)) := fun w' h => by
            rw [← hy.out]
            refine (put32_any neg 0 S w' (by decide) HSL.out).mono ?_
            rintro r w1 ⟨rfl, T, rfl⟩
            exact ⟨rfl, fC h.out.1 (al_below _ _) (by have := h.out.1.size; simp at this; omega), h.out.2.al _⟩
          go_wp2_with fail
          go_region_held3 (fun w' => (w'.cell? ⟨w.heap.size, 0, none⟩ = some (.int .i64 24) ∧ w'.cell? ⟨w.heap.size, 1, none⟩ = some (.int .i64 (-126)) ∧ w'.cell? ⟨w.heap.size, 2, none⟩ = some (.int .i64 127) ∧ w'.cell? ⟨w.heap.size, 3, none⟩ = some (.int .i64 8)) ∧ Hid (Below (w.heap.size + 1) (w.alloc (.cells #[.int .i64 24, .int .i64 (-126), .int .i64 127, .int .i64 8] 66)) w' ∧ NumAt w' (w.heap.size + 1) ((S : Nat) : Int) bd3)) (exact HK.out _ (by first | assumption | exact HQ1.out _ | exact HQ2.out _ | exact HQ3.out _ _))
            (first
              | (go_at_call 69; refine (HNU.out _ (by first | exact HQ2.out _ | exact And.right (by assumption))).mono ?_; rintro r w9 ⟨rfl, rfl⟩)
              | (go_at_call 103; refine (HPU.out _ (by first | exact HQ2.out _ | exact And.right (by assumption))).mono ?_; rintro r w9 ⟨rfl, HE9⟩))
          all_goals go_wp2
          all_goals go_ret2
          all_goals exact ⟨ret_uf HEQ.out.1.symm HEQ.out.2.symm, bl_B HE9.out.1⟩
        have HSUB := hid hsub
        have hsubI : ¬ (bl : Int) < 24 := by omega
        clear hsub
        have hX : u - (-149) + 1 = (((u - (-149) + 1).toNat : Nat) : Int) := by omega
        obtain ⟨X, hXX⟩ : ∃ X, Hid ((u - (-149) + 1).toNat = X) := ⟨_, rfl⟩
        have hXc : (u - (-149) + 1).toNat = X := hXX.out
        rw [hXc] at hX
        have hX2 : u + 149 + 1 = (X : Int) := by omega
        have hX3 : u + 150 = (X : Int) := by omega
        have HXL : Hid (X < 256) := by have h1 := hXc; have h2 := HOV.out; have h3 := HUB.out; have h4 := HBLLE.out; show X < 256; omega
        obtain ⟨s2, hs2⟩ : ∃ s2 : Nat, Hid (S = s2) := ⟨_, rfl⟩
        have HS2 : Hid (s2 < 18446744073709551616) := by rw [← hs2.out]; have := HS64.out; show S < _; omega
        have hmask : bits .and .u64 (s2 : Int) 8388607 = ((s2 % 8388608 : Nat) : Int) := and_mask s2 23 HS2.out (by decide)
        obtain ⟨f, hff⟩ : ∃ f, Hid (s2 % 8388608 = f) := ⟨_, rfl⟩
        have HFW : Hid (f < 8388608) := by rw [← hff.out]; exact Nat.mod_lt _ (by decide)
        rw [hff.out] at hmask
        have hmk : IntKind.u64.wrap (IntKind.u64.wrap (2 ^ min (IntKind.u64.wrap (IntKind.i64.wrap 23)).toNat 64) - 1) = 8388607 := by decide +kernel
        have HEQ : Hid ((V : Int) = (signN32 neg (packN32 X f) : Int) ∧ FL = 0) := by
          obtain ⟨a1, a2⟩ := HVF.out HOV.out
          rw [HDN.out HCAR.out HSUB.out, hXc, hs2.out, hff.out] at a1
          exact ⟨by rw [a1], a2⟩
        obtain ⟨y, hy⟩ : ∃ y, Hid (signN32 neg (packN32 X f) = y) := ⟨_, rfl⟩
        rw [hy.out] at HEQ
        have HK : Hid (∀ w', Hid (Below (w.heap.size + 1) (w.alloc (.cells #[.int .i64 24, .int .i64 (-126), .int .i64 127, .int .i64 8] 66)) w' ∧ NumAt w' (w.heap.size + 1) ((S : Nat) : Int) bd3) → (w'.cell? ⟨w.heap.size, 0, none⟩ = some (.int .i64 24) ∧ w'.cell? ⟨w.heap.size, 1, none⟩ = some (.int .i64 (-126)) ∧ w'.cell? ⟨w.heap.size, 2, none⟩ = some (.int .i64 127) ∧ w'.cell? ⟨w.heap.size, 3, none⟩ = some (.int .i64 8)) ∧ Hid (Below (w.heap.size + 1) (w.alloc (.cells #[.int .i64 24, .int .i64 (-126), .int .i64 127, .int .i64 8] 66)) w' ∧ NumAt w' (w.heap.size + 1) ((S : Nat) : Int) bd3)) := fun w' h => ⟨fcells h.out.1, h⟩
        have HQ1 : Hid (∀ k, Hid (Below (w.heap.size + 1) (w.alloc (.cells #[.int .i64 24, .int .i64 (-126), .int .i64 127, .int .i64 8] 66)) (w4.drewN k).drew ∧ NumAt (w4.drewN k).drew (w.heap.size + 1) ((S : Nat) : Int) bd3)) := fun k => ⟨Below.drew (below_drewN HF.out k), NumAt.drew (NumAt.draw HN.out k)⟩
        have HQ2 : Hid (∀ k, Hid (Below (w.heap.size + 1) (w.alloc (.cells #[.int .i64 24, .int .i64 (-126), .int .i64 127, .int .i64 8] 66)) (w4.drewN k) ∧ NumAt (w4.drewN k) (w.heap.size + 1) ((S : Nat) : Int) bd3)) := fun k => ⟨below_drewN HF.out k, NumAt.draw HN.out k⟩
        have HQ3 : Hid (∀ k j, Hid (Below (w.heap.size + 1) (w.alloc (.cells #[.int .i64 24, .int .i64 (-126), .int .i64 127, .int .i64 8] 66)) (((w4.drewN k).drewN j).drew) ∧ NumAt (((w4.drewN k).drewN j).drew) (w.heap.size + 1) ((S : Nat) : Int) bd3)) := fun k j => ⟨Below.drew (below_drewN (below_drewN HF.out k) j), NumAt.drew (NumAt.draw (NumAt.draw HN.out k) j)⟩
        have HNU : Hid (∀ w', Hid (Below (w.heap.size + 1) (w.alloc (.cells #[.int .i64 24, .int .i64 (-126), .int .i64 127, .int .i64 8] 66)) w' ∧ NumAt w' (w.heap.size + 1) ((S : Nat) : Int) bd3) → Calls Tryz.prog 69 #[.pointer (some ⟨(w.heap.size + 1), 0, none⟩)] w' fun r w1 => r = .returned (.int .u64 s2) ∧ w1 = w') := fun w' h => by
          rw [← hs2.out]; exact NUint64 (w.heap.size + 1) S bd3 w' h.out.2 (by have := HS64.out; omega)
        have HPU : Hid (∀ w', Hid (Below (w.heap.size + 1) (w.alloc (.cells #[.int .i64 24, .int .i64 (-126), .int .i64 127, .int .i64 8] 66)) w' ∧ NumAt w' (w.heap.size + 1) ((S : Nat) : Int) bd3) → Calls Tryz.prog 103 #[.agg #[.int .i64 24, .int .i64 (-126), .int .i64 127, .int .i64 8], .bool neg, .int .i64 X, .int .u64 f] w' fun r w1 => r = .returned (.int .u64 y) ∧ Hid (Below (w.heap.size + 1) (w.alloc (.cells #[.int .i64 24, .int .i64 (-126), .int .i64 127, .int .i64 8] 66)) w1 ∧ NumAt w1 (w.heap.size + 1) ((S : Nat) : Int) bd3)) := fun w' h => by
          rw [← hy.out]
          refine (put32_any neg X f w' HXL.out HFW.out).mono ?_
          rintro r w1 ⟨rfl, T, rfl⟩
          exact ⟨rfl, fC h.out.1 (al_below _ _) (by have := h.out.1.size; simp at this; omega), h.out.2.al _⟩
        go_wp2_with fail
        go_region_held3 (fun w' => (w'.cell? ⟨w.heap.size, 0, none⟩ = some (.int .i64 24) ∧ w'.cell? ⟨w.heap.size, 1, none⟩ = some (.int .i64 (-126)) ∧ w'.cell? ⟨w.heap.size, 2, none⟩ = some (.int .i64 127) ∧ w'.cell? ⟨w.heap.size, 3, none⟩ = some (.int .i64 8)) ∧ Hid (Below (w.heap.size + 1) (w.alloc (.cells #[.int .i64 24, .int .i64 (-126), .int .i64 127, .int .i64 8] 66)) w' ∧ NumAt w' (w.heap.size + 1) ((S : Nat) : Int) bd3)) (exact HK.out _ (by first | assumption | exact HQ1.out _ | exact HQ2.out _ | exact HQ3.out _ _))
          (first
            | (go_at_call 69; refine (HNU.out _ (by first | exact HQ2.out _ | exact And.right (by assumption))).mono ?_; rintro r w9 ⟨rfl, rfl⟩)
            | (go_at_call 103; refine (HPU.out _ (by first | exact HQ2.out _ | exact And.right (by assumption))).mono ?_; rintro r w9 ⟨rfl, HE9⟩))
        all_goals go_wp2
        all_goals go_ret2
        all_goals exact ⟨ret_uf HEQ.out.1.symm HEQ.out.2.symm, bl_B HE9.out.1⟩
  · -- something may be cut off
    obtain ⟨s, hs⟩ : ∃ s : Nat, Hid (u - e = (s : Int)) := ⟨(u - e).toNat, by show u - e = _; omega⟩
    have hs' : u - e = (s : Int) := hs.out
    have hs1 : 1 ≤ s := by omega
    have hsb : s ≤ 1000000 := by omega
    have hq : cutQ m (u - e) = m / 2 ^ s := by
      unfold cutQ
      rw [if_neg (by omega)]
      congr 2
      omega
    have hr : cutR m (u - e) = restN m s := by
      unfold cutR
      rw [if_neg (by omega)]
      congr 1
      omega
    have hR3 := restN_le m s
    have hcc := cutC_rest m s hs1
    obtain ⟨R, hR⟩ : ∃ R, Hid (restN m s = R) := ⟨_, rfl⟩
    rw [hR.out] at hr hR3 hcc
    obtain ⟨C, hC⟩ : ∃ C : Int, Hid ((R : Int) - 2 = C) := ⟨_, rfl⟩
    rw [hC.out] at hcc
    obtain ⟨Q1, hQ1⟩ : ∃ Q1, Hid (m / 2 ^ s = Q1) := ⟨_, rfl⟩
    rw [hQ1.out] at hq
    obtain ⟨B, hB⟩ : ∃ B, Hid (goesOf neg (decide (Q1 % 2 = 1)) R mode = B) := ⟨_, rfl⟩
    have hSv : Q1 + (if B = true then 1 else 0) = S := by rw [← hso, stepQ_goes, hq, hr, hB.out]
    have HCU : Hid (∀ W, NumAt W M m bd → Calls Tryz.prog 100 #[.pointer (some ⟨M, 0, none⟩), .int .i64 s, .bool false] W fun r w' => ∃ q, r = .returned (.tuple #[.pointer (some ⟨q, 0, none⟩), .int .i64 C]) ∧ NumAt w' q (Q1 : Int) bd ∧ W.heap.size ≤ q ∧ Below W.heap.size W w') := fun W h => by
      have := rcut_any M m s bd W h (by omega) hs1 hsb
      rw [hcc, hQ1.out] at this
      exact this
    have HGO : Hid (∀ W q, NumAt W q (Q1 : Int) bd → Calls Tryz.prog 101 #[.bool neg, .pointer (some ⟨q, 0, none⟩), .int .i64 C, .int .i64 mode] W fun r w' => r = .returned (.bool B) ∧ Below W.heap.size W w') := fun W q h => by
      have := goesUp_any neg q Q1 bd R mode W h (by omega) hR3
      rw [hC.out, hB.out] at this
      exact this
    have HB0 : Hid (R = 0 → B = false) := fun h => by rw [← hB.out, h]; rfl
    have HCR : Hid (cutR m (u - e) = R) := hr
    have HSV := hid hSv
    have hlt : e < u := by omega
    clear hm hb hsl hso hcr hro hl1 hlm hu1 hSv h0 hblle hcut hq hr hR3 hcc
    have HS1 := hid hs1
    clear hs1 hsb
    go_enter Tryz.func60, Tryz.ntmps60
    go_wp2_with fail
    refine (HLm.out _ (HM.out.al _)).mono ?_
    rintro r w1 ⟨rfl, k1, rfl⟩
    go_wp2_with fail
    refine (NSet (w.heap.size + 1) M m bd _ (fresh_zok' _ _ (by simp [World.drewN])) (((HM.out.al _).draw _).al _) (by have := HB.out; omega)).mono ?_
    rintro r w2 ⟨rfl, h2, b2⟩
    have HM2 : Hid (NumAt w2 M m bd) := (((HM.out.al _).draw _).al _).but b2 (by omega) (fresh_zok' _ _ (by simp [World.drewN]))
    have HF2 : Hid (Below (w.heap.size + 1) (w.alloc (.cells #[.int .i64 24, .int .i64 (-126), .int .i64 127, .int .i64 8] 66)) w2) := (fB (bl_al (bl_drewN _ (Below.refl _ _)) _)).trans (b2.below (by simp [World.drewN]) (Nat.le_refl _))
    clear h2 b2
    go_wp2_with fail
    refine (HCU.out w2 HM2.out).mono ?_
    rintro r w3 ⟨q, rfl, h3, hqs, b3⟩
    have HN3 := hid h3
    have hqq : w.heap.size + 1 ≤ q := by have := HF2.out.size; simp at this; omega
    have HF3 : Hid (Below (w.heap.size + 1) (w.alloc (.cells #[.int .i64 24, .int .i64 (-126), .int .i64 127, .int .i64 8] 66)) w3) := fC HF2.out b3 (by have := HF2.out.size; simp at this; omega)
    clear h3 b3 hqs
    go_wp2_with fail
    refine (HGO.out w3 q HN3.out).mono ?_
    rintro r w4 ⟨rfl, b4⟩
    have HN4 := hid (HN3.out.below b4)
    have HF4 : Hid (Below (w.heap.size + 1) (w.alloc (.cells #[.int .i64 24, .int .i64 (-126), .int .i64 127, .int .i64 8] 66)) w4) := fC HF3.out b4 (by have := HF3.out.size; simp at this; omega)
    clear b4 HGO HCU HN3 HF3
    cases B
    · have HSQ : Hid (Q1 = S) := by have := HSV.out; show Q1 = S; simpa using this
      have HN : Hid (NumAt w4 q (S : Int) bd) := by rw [← HSQ.out]; exact HN4.out
      have HF := HF4
      obtain ⟨bd3, hbd3⟩ : ∃ bd3, Hid (bd = bd3) := ⟨_, rfl⟩
      have HBD : Hid (bd3 ≤ 900000) := by have := hbd3.out; have := HB.out; show bd3 ≤ 900000; omega
      rw [hbd3.out] at HN
      have HBL := quiet_len q S bd3 bl HBD.out hbl.out
      obtain ⟨c0, c1, c2, c3⟩ := fcells HF.out
      by_cases hR0 : R = 0
      · have hCC : C = -2 := by have := hC.out; omega
        have HVF : Hid (u + (bl : Int) - 1 ≤ 127 → V = signN32 neg (docMag 24 (-149) S u) ∧ FL = 0) := fun h => by
          obtain ⟨a1, a2⟩ := HVN.out h
          rw [HCR.out, if_pos hR0] at a2
          exact ⟨a1, a2⟩
        subst hCC
        clear hR0
        go_wp2_with fail
        go_quiet (first | (go_at_call 104; exact Calls.quiet_of (HBL.out _ HN.out _)))
        by_cases hcar : 24 < bl
        · have HCAR := hid hcar
          have hcarI : (24 : Int) < (bl : Int) := by omega
          clear hcar
          go_wp2_with fail
          refine (NRsh q q S 1 bd3 _ (HN.out.draw _).zok (HN.out.draw _) HBD.out (by decide)).mono ?_
          rintro r w8 ⟨rfl, h8, b8⟩
          have HN8 : Hid (NumAt w8 q ((S / 2 : Nat) : Int) bd3) := h8
          have HF8 : Hid (Below (w.heap.size + 1) (w.alloc (.cells #[.int .i64 24, .int .i64 (-126), .int .i64 127, .int .i64 8] 66)) w8) := (below_drewN HF.out _).trans (b8.below (by have := HF.out.size; simp [World.drewN] at this ⊢; omega) hqq)
          clear h8 b8 c0 c1 c2 c3
          obtain ⟨c0, c1, c2, c3⟩ := fcells HF8.out
          obtain ⟨h2a, h2b⟩ := HHALF.out HCAR.out
          obtain ⟨p', hp'⟩ : ∃ p' : Nat, Hid (24 = p') := ⟨_, rfl⟩
          have HBL8 := quiet_len q (S / 2) bd3 p' HBD.out (h2a.trans hp'.out)
          obtain ⟨u', hu'⟩ : ∃ u', Hid (u + 1 = u') := ⟨_, rfl⟩
          have hu'1 : u + 1 = u' := hu'.out
          have hu'2 : IntKind.i64.wrap (u + 1) = u' := by rw [IntWalk.i64_in _ (by omega)]; exact hu'1
          have hu'3 : IntKind.i64.wrap u' = u' := by rw [IntWalk.i64_in _ (by omega)]
          have hpb : p' ≤ 100 := by have := hp'.out; omega
          have HUB : Hid (u' + (p' : Int) = u + (bl : Int)) := by have := hp'.out; show u' + (p' : Int) = u + (bl : Int); omega
          have HLP : Hid (24 ≤ p') := by have := hp'.out; show 24 ≤ p'; omega
          clear h2a h2b
          go_wp2_with fail
          go_quiet (first | (go_at_call 104; first | exact Calls.quiet_of (HBL8.out _ HN8.out _) | exact quiet_of2 (HBL8.out _ HN8.out _)))
          by_cases hov : (127 : Int) < u' + (p' : Int) - 1
          · have HOV : Hid ((127 : Int) < u + (bl : Int) - 1) := by have h2 := HUB.out; show (127 : Int) < u + (bl : Int) - 1; omega
            go_wp2_with fail
            refine (over32_any neg mode _).mono ?_
            rintro r w9 ⟨rfl, b9⟩
            go_wp2
            go_ret2
            exact ⟨ret_uf (HVO.out HOV.out).1.symm (HVO.out HOV.out).2.symm, bl_then (by repeat (first | exact bl_B HF8.out | refine bl_drewN _ ?_)) b9⟩
          · have HOV : Hid (u + (bl : Int) - 1 ≤ 127) := by have h2 := HUB.out; show u + (bl : Int) - 1 ≤ 127; omega
            go_wp2_with fail
            go_quiet (first | (go_at_call 104; exact quiet_of2 (HBL8.out _ HN8.out _)))
            have hsubI : ¬ (p' : Int) < 24 := by have := hp'.out; omega
            have hX : u' - (-149) + 1 = (((u' - (-149) + 1).toNat : Nat) : Int) := by omega
            obtain ⟨X, hXX⟩ : ∃ X, Hid ((u' - (-149) + 1).toNat = X) := ⟨_, rfl⟩
            have hXc : (u' - (-149) + 1).toNat = X := hXX.out
            rw [hXc] at hX
            have hX2 : u' + 149 + 1 = (X : Int) := by omega
            have hX3 : u' + 150 = (X : Int) := by omega
            have HXL : Hid (X < 256) := by have h1 := hXc; have h2 := HOV.out; have h3 := HUB.out; have h4 := HLP.out; show X < 256; omega
            obtain ⟨s2, hs2⟩ : ∃ s2 : Nat, Hid ((S / 2) = s2) := ⟨_, rfl⟩
            have HS2 : Hid (s2 < 18446744073709551616) := by rw [← hs2.out]; have := HS64.out; show (S / 2) < _; omega
            have hmask : bits .and .u64 (s2 : Int) 8388607 = ((s2 % 8388608 : Nat) : Int) := and_mask s2 23 HS2.out (by decide)
            obtain ⟨f, hff⟩ : ∃ f, Hid (s2 % 8388608 = f) := ⟨_, rfl⟩
            have HFW : Hid (f < 8388608) := by rw [← hff.out]; exact Nat.mod_lt _ (by decide)
            rw [hff.out] at hmask
            have hmk : IntKind.u64.wrap (IntKind.u64.wrap (2 ^ min (IntKind.u64.wrap (IntKind.i64.wrap 23)).toNat 64) - 1) = 8388607 := by decide +kernel
            have HEQ : Hid ((V : Int) = (signN32 neg (packN32 X f) : Int) ∧ FL = 0) := by
              obtain ⟨a1, a2⟩ := HVF.out HOV.out
              rw [HDC.out HCAR.out, hu'.out, hXc, hs2.out, hff.out] at a1
              exact ⟨by rw [a1], a2⟩
            obtain ⟨y, hy⟩ : ∃ y, Hid (signN32 neg (packN32 X f) = y) := ⟨_, rfl⟩
            rw [hy.out] at HEQ
            have HK : Hid (∀ w', Hid (Below (w.heap.size + 1) (w.alloc (.cells #[.int .i64 24, .int .i64 (-126), .int .i64 127, .int .i64 8] 66)) w' ∧ NumAt w' q (((S / 2) : Nat) : Int) bd3) → (w'.cell? ⟨w.heap.size, 0, none⟩ = some (.int .i64 24) ∧ w'.cell? ⟨w.heap.size, 1, none⟩ = some (.int .i64 (-126)) ∧ w'.cell? ⟨w.heap.size, 2, none⟩ = some (.int .i64 127) ∧ w'.cell? ⟨w.heap.size, 3, none⟩ = some (.int .i64 8)) ∧ Hid (Below (w.heap.size + 1) (w.alloc (.cells #[.int .i64 24, .int .i64 (-126), .int .i64 127, .int .i64 8] 66)) w' ∧ NumAt w' q (((S / 2) : Nat) : Int) bd3)) := fun w' h => ⟨fcells h.out.1, h⟩
            have HQ1 : Hid (∀ k, Hid (Below (w.heap.size + 1) (w.alloc (.cells #[.int .i64 24, .int .i64 (-126), .int .i64 127, .int .i64 8] 66)) (w8.drewN k).drew ∧ NumAt (w8.drewN k).drew q (((S / 2) : Nat) : Int) bd3)) := fun k => ⟨Below.drew (below_drewN HF8.out k), NumAt.drew (NumAt.draw HN8.out k)⟩
            have HQ2 : Hid (∀ k, Hid (Below (w.heap.size + 1) (w.alloc (.cells #[.int .i64 24, .int .i64 (-126), .int .i64 127, .int .i64 8] 66)) (w8.drewN k) ∧ NumAt (w8.drewN k) q (((S / 2) : Nat) : Int) bd3)) := fun k => ⟨below_drewN HF8.out k, NumAt.draw HN8.out k⟩
            have HQ3 : Hid (∀ k j, Hid (Below (w.heap.size + 1) (w.alloc (.cells #[.int .i64 24, .int .i64 (-126), .int .i64 127, .int .i64 8] 66)) (((w8.drewN k).drewN j).drew) ∧ NumAt (((w8.drewN k).drewN j).drew) q (((S / 2) : Nat) : Int) bd3)) := fun k j => ⟨Below.drew (below_drewN (below_drewN HF8.out k) j), NumAt.drew (NumAt.draw (NumAt.draw HN8.out k) j)⟩
            have HNU : Hid (∀ w', Hid (Below (w.heap.size + 1) (w.alloc (.cells #[.int .i64 24, .int .i64 (-126), .int .i64 127, .int .i64 8] 66)) w' ∧ NumAt w' q (((S / 2) : Nat) : Int) bd3) → Calls Tryz.prog 69 #[.pointer (some ⟨q, 0, none⟩)] w' fun r w1 => r = .returned (.int .u64 s2) ∧ w1 = w') := fun w' h => by
              rw [← hs2.out]; exact NUint64 q (S / 2) bd3 w' h.out.2 (by have := HS64.out; omega)
            have HPU : Hid (∀ w', Hid (Below (w.heap.size + 1) (w.alloc (.cells #[.int .i64 24, .int .i64 (-126), .int .i64 127, .int .i64 8] 66)) w' ∧ NumAt w' q (((S / 2) : Nat) : Int) bd3) → Calls Tryz.prog 103 #[.agg #[.int .i64 24, .int .i64 (-126), .int .i64 127, .int .i64 8], .bool neg, .int .i64 X, .int .u64 f] w' fun r w1 => r = .returned (.int .u64 y) ∧ Hid (Below (w.heap.size + 1) (w.alloc (.cells #[.int .i64 24, .int .i64 (-126), .int .i64 127, .int .i64 8] 66)) w1 ∧ NumAt w1 q (((S / 2) : Nat) : Int) bd3)) := fun w' h => by
              rw [← hy.out]
              refine (put32_any neg X f w' HXL.out HFW.out).mono ?_
              rintro r w1 ⟨rfl, T, rfl⟩
              exact ⟨rfl, fC h.out.1 (al_below _ _) (by have := h.out.1.size; simp at this; omega), h.out.2.al _⟩
            go_wp2_with fail
            go_region_held3 (fun w' => (w'.cell? ⟨w.heap.size, 0, none⟩ = some (.int .i64 24) ∧ w'.cell? ⟨w.heap.size, 1, none⟩ = some (.int .i64 (-126)) ∧ w'.cell? ⟨w.heap.size, 2, none⟩ = some (.int .i64 127) ∧ w'.cell? ⟨w.heap.size, 3, none⟩ = some (.int .i64 8)) ∧ Hid (Below (w.heap.size + 1) (w.alloc (.cells #[.int .i64 24, .int .i64 (-126), .int .i64 127, .int .i64 8] 66)) w' ∧ NumAt w' q (((S / 2) : Nat) : Int) bd3)) (exact HK.out _ (by first | assumption | exact HQ1.out _ | exact HQ2.out _ | exact HQ3.out _ _))
              (first
                | (go_at_call 69; refine (HNU.out _ (by first | exact HQ2.out _ | exact And.right (by assumption))).mono ?_; rintro r w9 ⟨rfl, rfl⟩)
                | (go_at_call 103; refine (HPU.out _ (by first | exact HQ2.out _ | exact And.right (by assumption))).mono ?_; rintro r w9 ⟨rfl, HE9⟩))
            all_goals go_wp2
            all_goals go_ret2
            all_goals exact ⟨ret_uf HEQ.out.1.symm HEQ.out.2.symm, bl_B HE9.out.1⟩
        · have HCAR := hid hcar
          have hcarI : ¬ (24 : Int) < (bl : Int) := by omega
          have HUB : Hid (u + (bl : Int) = u + (bl : Int)) := rfl
          have hpb : bl ≤ 100 := by have := HBLLE.out; omega
          clear hcar
          go_wp2_with fail
          go_quiet (first | (go_at_call 104; first | exact Calls.quiet_of (HBL.out _ HN.out _) | exact quiet_of2 (HBL.out _ HN.out _)))
          by_cases hov : (127 : Int) < u + (bl : Int) - 1
          · have HOV : Hid ((127 : Int) < u + (bl : Int) - 1) := by have h2 := HUB.out; show (127 : Int) < u + (bl : Int) - 1; omega
            go_wp2_with fail
            refine (over32_any neg mode _).mono ?_
            rintro r w9 ⟨rfl, b9⟩
            go_wp2
            go_ret2
            exact ⟨ret_uf (HVO.out HOV.out).1.symm (HVO.out HOV.out).2.symm, bl_then (by repeat (first | exact bl_B HF.out | refine bl_drewN _ ?_)) b9⟩
          · have HOV : Hid (u + (bl : Int) - 1 ≤ 127) := by have h2 := HUB.out; show u + (bl : Int) - 1 ≤ 127; omega
            go_wp2_with fail
            go_quiet (first | (go_at_call 104; exact quiet_of2 (HBL.out _ HN.out _)))
            by_cases hsub : bl < 24
            · have hsubI : (bl : Int) < 24 := by omega
              have HSL : Hid (S < 8388608) := HSub.out hsub
              have HEQ : Hid ((V : Int) = (signN32 neg (packN32 0 S) : Int) ∧ FL = 0) := by
                obtain ⟨a1, a2⟩ := HVF.out HOV.out
                rw [HDS.out HCAR.out hsub] at a1
                exact ⟨by rw [a1], a2⟩
              obtain ⟨y, hy⟩ : ∃ y, Hid (signN32 neg (packN32 0 S) = y) := ⟨_, rfl⟩
              rw [hy.out] at HEQ
              clear hsub
              have HK : Hid (∀ w', Hid (Below (w.heap.size + 1) (w.alloc (.cells #[.int .i64 24, .int .i64 (-126), .int .i64 127, .int .i64 8] 66)) w' ∧ NumAt w' q ((S : Nat) : Int) bd3) → (w'.cell? ⟨w.heap.size, 0, none⟩ = some (.int .i64 24) ∧ w'.cell? ⟨w.heap.size, 1, none⟩ = some (.int .i64 (-126)) ∧ w'.cell? ⟨w.heap.size, 2, none⟩ = some (.int .i64 127) ∧ w'.cell? ⟨w.heap.size, 3, none⟩ = some (.int .i64 8)) ∧ Hid (Below (w.heap.size + 1) (w.alloc (.cells #[.int .i64 24, .int .i64 (-126), .int .i64 127, .int .i64 8] 66)) w' ∧ NumAt w' q ((S : Nat) : Int) bd3)) := fun w' h => ⟨fcells h.out.1, h⟩
              have HQ1 : Hid (∀ k, Hid (Below (w.heap.size + 1) (w.alloc (.cells #[.int .i64 24, .int .i64 (-126), .int .i64 127, .int .i64 8] 66)) (w4.drewN k).drew ∧ NumAt (w4.drewN k).drew q ((S : Nat) : Int) bd3)) := fun k => ⟨Below.drew (below_drewN HF.out k), NumAt.drew (NumAt.draw HN.out k)⟩
              have HQ2 : Hid (∀ k, Hid (Below (w.heap.size + 1) (w.alloc (.cells #[.int .i64 24, .int .i64 (-126), .int .i64 127, .int .i64 8] 66)) (w4.drewN k) ∧ NumAt (w4.drewN k) q ((S : Nat) : Int) bd3)) := fun k => ⟨below_drewN HF.out k, NumAt.draw HN.out k⟩
              have HQ3 : Hid (∀ k j, Hid (Below (w.heap.size + 1) (w.alloc (.cells #[.int .i64 24, .int .i64 (-126), .int .i64 127, .int .i64 8] 66)) (((w4.drewN k).drewN j).drew) ∧ NumAt (((w4.drewN k).drewN j).drew) q ((S : Nat) : Int) bd3)) := fun k j => ⟨Below.drew (below_drewN (below_drewN HF.out k) j), NumAt.drew (NumAt.draw (NumAt.draw HN.out k) j)⟩
              have HNU : Hid (∀ w', Hid (Below (w.heap.size + 1) (w.alloc (.cells #[.int .i64 24, .int .i64 (-126), .int .i64 127, .int .i64 8] 66)) w' ∧ NumAt w' q ((S : Nat) : Int) bd3) → Calls Tryz.prog 69 #[.pointer (some ⟨q, 0, none⟩)] w' fun r w1 => r = .returned (.int .u64 S) ∧ w1 = w') := fun w' h => NUint64 q S bd3 w' h.out.2 HS64.out
              have HPU : Hid (∀ w', Hid (Below (w.heap.size + 1) (w.alloc (.cells #[.int .i64 24, .int .i64 (-126), .int .i64 127, .int .i64 8] 66)) w' ∧ NumAt w' q ((S : Nat) : Int) bd3) → Calls Tryz.prog 103 #[.agg #[.int .i64 24, .int .i64 (-126), .int .i64 127, .int .i64 8], .bool neg, .int .i64 0, .int .u64 S] w' fun r w1 => r = .returned (.int .u64 y) ∧ Hid (Below (w.heap.size + 1) (w.alloc (.cells #[.int .i64 24, .int .i64 (-126), .int .i64 127, .int .i64 8] 66)) w1 ∧ NumAt w1 q ((S : Nat) : Int) bd3)) := fun w' h => by
                rw [← hy.out]
                refine (put32_any neg 0 S w' (by decide) HSL.out).mono ?_
                rintro r w1 ⟨rfl, T, rfl⟩
                exact ⟨rfl, fC h.out.1 (al_below _ _) (by have := h.out.1.size; simp at this; omega), h.out.2.al _⟩
              go_wp2_with fail
              go_region_held3 (fun w' => (w'.cell? ⟨w.heap.size, 0, none⟩ = some (.int .i64 24) ∧ w'.cell? ⟨w.heap.size, 1, none⟩ = some (.int .i64 (-126)) ∧ w'.cell? ⟨w.heap.size, 2, none⟩ = some (.int .i64 127) ∧ w'.cell? ⟨w.heap.size, 3, none⟩ = some (.int .i64 8)) ∧ Hid (Below (w.heap.size + 1) (w.alloc (.cells #[.int .i64 24, .int .i64 (-126), .int .i64 127, .int .i64 8] 66)) w' ∧ NumAt w' q ((S : Nat) : Int) bd3)) (exact HK.out _ (by first | assumption | exact HQ1.out _ | exact HQ2.out _ | exact HQ3.out _ _))
                (first
                  | (go_at_call 69; refine (HNU.out _ (by first | exact HQ2.out _ | exact And.right (by assumption))).mono ?_; rintro r w9 ⟨rfl, rfl⟩)
                  | (go_at_call 103; refine (HPU.out _ (by first | exact HQ2.out _ | exact And.right (by assumption))).mono ?_; rintro r w9 ⟨rfl, HE9⟩))
              all_goals go_wp2
              all_goals go_ret2
              all_goals exact ⟨ret_uf HEQ.out.1.symm HEQ.out.2.symm, bl_B HE9.out.1⟩
            have HSUB := hid hsub
            have hsubI : ¬ (bl : Int) < 24 := by omega
            clear hsub
            have hX : u - (-149) + 1 = (((u - (-149) + 1).toNat : Nat) : Int) := by omega
            obtain ⟨X, hXX⟩ : ∃ X, Hid ((u - (-149) + 1).toNat = X) := ⟨_, rfl⟩
            have hXc : (u - (-149) + 1).toNat = X := hXX.out
            rw [hXc] at hX
            have hX2 : u + 149 + 1 = (X : Int) := by omega
            have hX3 : u + 150 = (X : Int) := by omega
            have HXL : Hid (X < 256) := by have h1 := hXc; have h2 := HOV.out; have h3 := HUB.out; have h4 := HBLLE.out; show X < 256; omega
            obtain ⟨s2, hs2⟩ : ∃ s2 : Nat, Hid (S = s2) := ⟨_, rfl⟩
            have HS2 : Hid (s2 < 18446744073709551616) := by rw [← hs2.out]; have := HS64.out; show S < _; omega
            have hmask : bits .and .u64 (s2 : Int) 8388607 = ((s2 % 8388608 : Nat) : Int) := and_mask s2 23 HS2.out (by decide)
            obtain ⟨f, hff⟩ : ∃ f, Hid (s2 % 8388608 = f) := ⟨_, rfl⟩
            have HFW : Hid (f < 8388608) := by rw [← hff.out]; exact Nat.mod_lt _ (by decide)
            rw [hff.out] at hmask
            have hmk : IntKind.u64.wrap (IntKind.u64.wrap (2 ^ min (IntKind.u64.wrap (IntKind.i64.wrap 23)).toNat 64) - 1) = 8388607 := by decide +kernel
            have HEQ : Hid ((V : Int) = (signN32 neg (packN32 X f) : Int) ∧ FL = 0) := by
              obtain ⟨a1, a2⟩ := HVF.out HOV.out
              rw [HDN.out HCAR.out HSUB.out, hXc, hs2.out, hff.out] at a1
              exact ⟨by rw [a1], a2⟩
            obtain ⟨y, hy⟩ : ∃ y, Hid (signN32 neg (packN32 X f) = y) := ⟨_, rfl⟩
            rw [hy.out] at HEQ
            have HK : Hid (∀ w', Hid (Below (w.heap.size + 1) (w.alloc (.cells #[.int .i64 24, .int .i64 (-126), .int .i64 127, .int .i64 8] 66)) w' ∧ NumAt w' q ((S : Nat) : Int) bd3) → (w'.cell? ⟨w.heap.size, 0, none⟩ = some (.int .i64 24) ∧ w'.cell? ⟨w.heap.size, 1, none⟩ = some (.int .i64 (-126)) ∧ w'.cell? ⟨w.heap.size, 2, none⟩ = some (.int .i64 127) ∧ w'.cell? ⟨w.heap.size, 3, none⟩ = some (.int .i64 8)) ∧ Hid (Below (w.heap.size + 1) (w.alloc (.cells #[.int .i64 24, .int .i64 (-126), .int .i64 127, .int .i64 8] 66)) w' ∧ NumAt w' q ((S : Nat) : Int) bd3)) := fun w' h => ⟨fcells h.out.1, h⟩
            have HQ1 : Hid (∀ k, Hid (Below (w.heap.size + 1) (w.alloc (.cells #[.int .i64 24, .int .i64 (-126), .int .i64 127, .int .i64 8] 66)) (w4.drewN k).drew ∧ NumAt (w4.drewN k).drew q ((S : Nat) : Int) bd3)) := fun k => ⟨Below.drew (below_drewN HF.out k), NumAt.drew (NumAt.draw HN.out k)⟩
            have HQ2 : Hid (∀ k, Hid (Below (w.heap.size + 1) (w.alloc (.cells #[.int .i64 24, .int .i64 (-126), .int .i64 127, .int .i64 8] 66)) (w4.drewN k) ∧ NumAt (w4.drewN k) q ((S : Nat) : Int) bd3)) := fun k => ⟨below_drewN HF.out k, NumAt.draw HN.out k⟩
            have HQ3 : Hid (∀ k j, Hid (Below (w.heap.size + 1) (w.alloc (.cells #[.int .i64 24, .int .i64 (-126), .int .i64 127, .int .i64 8] 66)) (((w4.drewN k).drewN j).drew) ∧ NumAt (((w4.drewN k).drewN j).drew) q ((S : Nat) : Int) bd3)) := fun k j => ⟨Below.drew (below_drewN (below_drewN HF.out k) j), NumAt.drew (NumAt.draw (NumAt.draw HN.out k) j)⟩
            have HNU : Hid (∀ w', Hid (Below (w.heap.size + 1) (w.alloc (.cells #[.int .i64 24, .int .i64 (-126), .int .i64 127, .int .i64 8] 66)) w' ∧ NumAt w' q ((S : Nat) : Int) bd3) → Calls Tryz.prog 69 #[.pointer (some ⟨q, 0, none⟩)] w' fun r w1 => r = .returned (.int .u64 s2) ∧ w1 = w') := fun w' h => by
              rw [← hs2.out]; exact NUint64 q S bd3 w' h.out.2 (by have := HS64.out; omega)
            have HPU : Hid (∀ w', Hid (Below (w.heap.size + 1) (w.alloc (.cells #[.int .i64 24, .int .i64 (-126), .int .i64 127, .int .i64 8] 66)) w' ∧ NumAt w' q ((S : Nat) : Int) bd3) → Calls Tryz.prog 103 #[.agg #[.int .i64 24, .int .i64 (-126), .int .i64 127, .int .i64 8], .bool neg, .int .i64 X, .int .u64 f] w' fun r w1 => r = .returned (.int .u64 y) ∧ Hid (Below (w.heap.size + 1) (w.alloc (.cells #[.int .i64 24, .int .i64 (-126), .int .i64 127, .int .i64 8] 66)) w1 ∧ NumAt w1 q ((S : Nat) : Int) bd3)) := fun w' h => by
              rw [← hy.out]
              refine (put32_any neg X f w' HXL.out HFW.out).mono ?_
              rintro r w1 ⟨rfl, T, rfl⟩
              exact ⟨rfl, fC h.out.1 (al_below _ _) (by have := h.out.1.size; simp at this; omega), h.out.2.al _⟩
            go_wp2_with fail
            go_region_held3 (fun w' => (w'.cell? ⟨w.heap.size, 0, none⟩ = some (.int .i64 24) ∧ w'.cell? ⟨w.heap.size, 1, none⟩ = some (.int .i64 (-126)) ∧ w'.cell? ⟨w.heap.size, 2, none⟩ = some (.int .i64 127) ∧ w'.cell? ⟨w.heap.size, 3, none⟩ = some (.int .i64 8)) ∧ Hid (Below (w.heap.size + 1) (w.alloc (.cells #[.int .i64 24, .int .i64 (-126), .int .i64 127, .int .i64 8] 66)) w' ∧ NumAt w' q ((S : Nat) : Int) bd3)) (exact HK.out _ (by first | assumption | exact HQ1.out _ | exact HQ2.out _ | exact HQ3.out _ _))
              (first
                | (go_at_call 69; refine (HNU.out _ (by first | exact HQ2.out _ | exact And.right (by assumption))).mono ?_; rintro r w9 ⟨rfl, rfl⟩)
                | (go_at_call 103; refine (HPU.out _ (by first | exact HQ2.out _ | exact And.right (by assumption))).mono ?_; rintro r w9 ⟨rfl, HE9⟩))
            all_goals go_wp2
            all_goals go_ret2
            all_goals exact ⟨ret_uf HEQ.out.1.symm HEQ.out.2.symm, bl_B HE9.out.1⟩
      · have hCC : -2 < C := by have := hC.out; omega
        by_cases hTl : T < (-126)
        · have HVF : Hid (u + (bl : Int) - 1 ≤ 127 → V = signN32 neg (docMag 24 (-149) S u) ∧ FL = 3) := fun h => by
            obtain ⟨a1, a2⟩ := HVN.out h
            rw [HCR.out, if_neg hR0, if_pos hTl] at a2
            exact ⟨a1, a2⟩
          clear hR0
          go_wp2_with fail
          go_quiet (first | (go_at_call 104; exact Calls.quiet_of (HBL.out _ HN.out _)))
          by_cases hcar : 24 < bl
          · have HCAR := hid hcar
            have hcarI : (24 : Int) < (bl : Int) := by omega
            clear hcar
            go_wp2_with fail
            refine (NRsh q q S 1 bd3 _ (HN.out.draw _).zok (HN.out.draw _) HBD.out (by decide)).mono ?_
            rintro r w8 ⟨rfl, h8, b8⟩
            have HN8 : Hid (NumAt w8 q ((S / 2 : Nat) : Int) bd3) := h8
            have HF8 : Hid (Below (w.heap.size + 1) (w.alloc (.cells #[.int .i64 24, .int .i64 (-126), .int .i64 127, .int .i64 8] 66)) w8) := (below_drewN HF.out _).trans (b8.below (by have := HF.out.size; simp [World.drewN] at this ⊢; omega) hqq)
            clear h8 b8 c0 c1 c2 c3
            obtain ⟨c0, c1, c2, c3⟩ := fcells HF8.out
            obtain ⟨h2a, h2b⟩ := HHALF.out HCAR.out
            obtain ⟨p', hp'⟩ : ∃ p' : Nat, Hid (24 = p') := ⟨_, rfl⟩
            have HBL8 := quiet_len q (S / 2) bd3 p' HBD.out (h2a.trans hp'.out)
            obtain ⟨u', hu'⟩ : ∃ u', Hid (u + 1 = u') := ⟨_, rfl⟩
            have hu'1 : u + 1 = u' := hu'.out
            have hu'2 : IntKind.i64.wrap (u + 1) = u' := by rw [IntWalk.i64_in _ (by omega)]; exact hu'1
            have hu'3 : IntKind.i64.wrap u' = u' := by rw [IntWalk.i64_in _ (by omega)]
            have hpb : p' ≤ 100 := by have := hp'.out; omega
            have HUB : Hid (u' + (p' : Int) = u + (bl : Int)) := by have := hp'.out; show u' + (p' : Int) = u + (bl : Int); omega
            have HLP : Hid (24 ≤ p') := by have := hp'.out; show 24 ≤ p'; omega
            clear h2a h2b
            go_wp2_with fail
            go_quiet (first | (go_at_call 104; first | exact Calls.quiet_of (HBL8.out _ HN8.out _) | exact quiet_of2 (HBL8.out _ HN8.out _)))
            by_cases hov : (127 : Int) < u' + (p' : Int) - 1
            · exfalso; have h3 := HBLLE.out; have h4 := HUB.out; omega
            · have HOV : Hid (u + (bl : Int) - 1 ≤ 127) := by have h2 := HUB.out; show u + (bl : Int) - 1 ≤ 127; omega
              go_wp2_with fail
              go_quiet (first | (go_at_call 104; exact quiet_of2 (HBL8.out _ HN8.out _)))
              have hsubI : ¬ (p' : Int) < 24 := by have := hp'.out; omega
              have hX : u' - (-149) + 1 = (((u' - (-149) + 1).toNat : Nat) : Int) := by omega
              obtain ⟨X, hXX⟩ : ∃ X, Hid ((u' - (-149) + 1).toNat = X) := ⟨_, rfl⟩
              have hXc : (u' - (-149) + 1).toNat = X := hXX.out
              rw [hXc] at hX
              have hX2 : u' + 149 + 1 = (X : Int) := by omega
              have hX3 : u' + 150 = (X : Int) := by omega
              have HXL : Hid (X < 256) := by have h1 := hXc; have h2 := HOV.out; have h3 := HUB.out; have h4 := HLP.out; show X < 256; omega
              obtain ⟨s2, hs2⟩ : ∃ s2 : Nat, Hid ((S / 2) = s2) := ⟨_, rfl⟩
              have HS2 : Hid (s2 < 18446744073709551616) := by rw [← hs2.out]; have := HS64.out; show (S / 2) < _; omega
              have hmask : bits .and .u64 (s2 : Int) 8388607 = ((s2 % 8388608 : Nat) : Int) := and_mask s2 23 HS2.out (by decide)
              obtain ⟨f, hff⟩ : ∃ f, Hid (s2 % 8388608 = f) := ⟨_, rfl⟩
              have HFW : Hid (f < 8388608) := by rw [← hff.out]; exact Nat.mod_lt _ (by decide)
              rw [hff.out] at hmask
              have hmk : IntKind.u64.wrap (IntKind.u64.wrap (2 ^ min (IntKind.u64.wrap (IntKind.i64.wrap 23)).toNat 64) - 1) = 8388607 := by decide +kernel
              have HEQ : Hid ((V : Int) = (signN32 neg (packN32 X f) : Int) ∧ FL = 3) := by
                obtain ⟨a1, a2⟩ := HVF.out HOV.out
                rw [HDC.out HCAR.out, hu'.out, hXc, hs2.out, hff.out] at a1
                exact ⟨by rw [a1], a2⟩
              obtain ⟨y, hy⟩ : ∃ y, Hid (signN32 neg (packN32 X f) = y) := ⟨_, rfl⟩
              rw [hy.out] at HEQ
              have HK : Hid (∀ w', Hid (Below (w.heap.size + 1) (w.alloc (.cells #[.int .i64 24, .int .i64 (-126), .int .i64 127, .int .i64 8] 66)) w' ∧ NumAt w' q (((S / 2) : Nat) : Int) bd3) → (w'.cell? ⟨w.heap.size, 0, none⟩ = some (.int .i64 24) ∧ w'.cell? ⟨w.heap.size, 1, none⟩ = some (.int .i64 (-126)) ∧ w'.cell? ⟨w.heap.size, 2, none⟩ = some (.int .i64 127) ∧ w'.cell? ⟨w.heap.size, 3, none⟩ = some (.int .i64 8)) ∧ Hid (Below (w.heap.size + 1) (w.alloc (.cells #[.int .i64 24, .int .i64 (-126), .int .i64 127, .int .i64 8] 66)) w' ∧ NumAt w' q (((S / 2) : Nat) : Int) bd3)) := fun w' h => ⟨fcells h.out.1, h⟩
              have HQ1 : Hid (∀ k, Hid (Below (w.heap.size + 1) (w.alloc (.cells #[.int .i64 24, .int .i64 (-126), .int .i64 127, .int .i64 8] 66)) (w8.drewN k).drew ∧ NumAt (w8.drewN k).drew q (((S / 2) : Nat) : Int) bd3)) := fun k => ⟨Below.drew (below_drewN HF8.out k), NumAt.drew (NumAt.draw HN8.out k)⟩
              have HQ2 : Hid (∀ k, Hid (Below (w.heap.size + 1) (w.alloc (.cells #[.int .i64 24, .int .i64 (-126), .int .i64 127, .int .i64 8] 66)) (w8.drewN k) ∧ NumAt (w8.drewN k) q (((S / 2) : Nat) : Int) bd3)) := fun k => ⟨below_drewN HF8.out k, NumAt.draw HN8.out k⟩
              have HQ3 : Hid (∀ k j, Hid (Below (w.heap.size + 1) (w.alloc (.cells #[.int .i64 24, .int .i64 (-126), .int .i64 127, .int .i64 8] 66)) (((w8.drewN k).drewN j).drew) ∧ NumAt (((w8.drewN k).drewN j).drew) q (((S / 2) : Nat) : Int) bd3)) := fun k j => ⟨Below.drew (below_drewN (below_drewN HF8.out k) j), NumAt.drew (NumAt.draw (NumAt.draw HN8.out k) j)⟩
              have HNU : Hid (∀ w', Hid (Below (w.heap.size + 1) (w.alloc (.cells #[.int .i64 24, .int .i64 (-126), .int .i64 127, .int .i64 8] 66)) w' ∧ NumAt w' q (((S / 2) : Nat) : Int) bd3) → Calls Tryz.prog 69 #[.pointer (some ⟨q, 0, none⟩)] w' fun r w1 => r = .returned (.int .u64 s2) ∧ w1 = w') := fun w' h => by
                rw [← hs2.out]; exact NUint64 q (S / 2) bd3 w' h.out.2 (by have := HS64.out; omega)
              have HPU : Hid (∀ w', Hid (Below (w.heap.size + 1) (w.alloc (.cells #[.int .i64 24, .int .i64 (-126), .int .i64 127, .int .i64 8] 66)) w' ∧ NumAt w' q (((S / 2) : Nat) : Int) bd3) → Calls Tryz.prog 103 #[.agg #[.int .i64 24, .int .i64 (-126), .int .i64 127, .int .i64 8], .bool neg, .int .i64 X, .int .u64 f] w' fun r w1 => r = .returned (.int .u64 y) ∧ Hid (Below (w.heap.size + 1) (w.alloc (.cells #[.int .i64 24, .int .i64 (-126), .int .i64 127, .int .i64 8] 66)) w1 ∧ NumAt w1 q (((S / 2) : Nat) : Int) bd3)) := fun w' h => by
                rw [← hy.out]
                refine (put32_any neg X f w' HXL.out HFW.out).mono ?_
                rintro r w1 ⟨rfl, T, rfl⟩
                exact ⟨rfl, fC h.out.1 (al_below _ _) (by have := h.out.1.size; simp at this; omega), h.out.2.al _⟩
              go_wp2_with fail
              go_region_held3 (fun w' => (w'.cell? ⟨w.heap.size, 0, none⟩ = some (.int .i64 24) ∧ w'.cell? ⟨w.heap.size, 1, none⟩ = some (.int .i64 (-126)) ∧ w'.cell? ⟨w.heap.size, 2, none⟩ = some (.int .i64 127) ∧ w'.cell? ⟨w.heap.size, 3, none⟩ = some (.int .i64 8)) ∧ Hid (Below (w.heap.size + 1) (w.alloc (.cells #[.int .i64 24, .int .i64 (-126), .int .i64 127, .int .i64 8] 66)) w' ∧ NumAt w' q (((S / 2) : Nat) : Int) bd3)) (exact HK.out _ (by first | assumption | exact HQ1.out _ | exact HQ2.out _ | exact HQ3.out _ _))
                (first
                  | (go_at_call 69; refine (HNU.out _ (by first | exact HQ2.out _ | exact And.right (by assumption))).mono ?_; rintro r w9 ⟨rfl, rfl⟩)
                  | (go_at_call 103; refine (HPU.out _ (by first | exact HQ2.out _ | exact And.right (by assumption))).mono ?_; rintro r w9 ⟨rfl, HE9⟩))
              all_goals go_wp2
              all_goals go_ret2
              all_goals exact ⟨ret_uf HEQ.out.1.symm HEQ.out.2.symm, bl_B HE9.out.1⟩
          · have HCAR := hid hcar
            have hcarI : ¬ (24 : Int) < (bl : Int) := by omega
            have HUB : Hid (u + (bl : Int) = u + (bl : Int)) := rfl
            have hpb : bl ≤ 100 := by have := HBLLE.out; omega
            clear hcar
            go_wp2_with fail
            go_quiet (first | (go_at_call 104; first | exact Calls.quiet_of (HBL.out _ HN.out _) | exact quiet_of2 (HBL.out _ HN.out _)))
            by_cases hov : (127 : Int) < u + (bl : Int) - 1
            · exfalso; have h3 := HBLLE.out; have h4 := HUB.out; omega
            · have HOV : Hid (u + (bl : Int) - 1 ≤ 127) := by have h2 := HUB.out; show u + (bl : Int) - 1 ≤ 127; omega
              go_wp2_with fail
              go_quiet (first | (go_at_call 104; exact quiet_of2 (HBL.out _ HN.out _)))
              by_cases hsub : bl < 24
              · have hsubI : (bl : Int) < 24 := by omega
                have HSL : Hid (S < 8388608) := HSub.out hsub
                have HEQ : Hid ((V : Int) = (signN32 neg (packN32 0 S) : Int) ∧ FL = 3) := by
                  obtain ⟨a1, a2⟩ := HVF.out HOV.out
                  rw [HDS.out HCAR.out hsub] at a1
                  exact ⟨by rw [a1], a2⟩
                obtain ⟨y, hy⟩ : ∃ y, Hid (signN32 neg (packN32 0 S) = y) := ⟨_, rfl⟩
                rw [hy.out] at HEQ
                clear hsub
                have HK : Hid (∀ w', Hid (Below (w.heap.size + 1) (w.alloc (.cells #[.int .i64 24, .int .i64 (-126), .int .i64 127, .int .i64 8] 66)) w' ∧ NumAt w' q ((S : Nat) : Int) bd3) → (w'.cell? ⟨w.heap.size, 0, none⟩ = some (.int .i64 24) ∧ w'.cell? ⟨w.heap.size, 1, none⟩ = some (.int .i64 (-126)) ∧ w'.cell? ⟨w.heap.size, 2, none⟩ = some (.int .i64 127) ∧ w'.cell? ⟨w.heap.size, 3, none⟩ = some (.int .i64 8)) ∧ Hid (Below (w.heap.size + 1) (w.alloc (.cells #[.int .i64 24, .int .i64 (-126), .int .i64 127, .int .i64 8] 66)) w' ∧ NumAt w' q ((S : Nat) : Int) bd3)) := fun w' h => ⟨fcells h.out.1, h⟩
                have HQ1 : Hid (∀ k, Hid (Below (w.heap.size + 1) (w.alloc (.cells #[.int .i64 24, .int .i64 (-126), .int .i64 127, .int .i64 8] 66)) (w4.drewN k).drew ∧ NumAt (w4.drewN k).drew q ((S : Nat) : Int) bd3)) := fun k => ⟨Below.drew (below_drewN HF.out k), NumAt.drew (NumAt.draw HN.out k)⟩
                have HQ2 : Hid (∀ k, Hid (Below (w.heap.size + 1) (w.alloc (.cells #[.int .i64 24, .int .i64 (-126), .int .i64 127, .int .i64 8] 66)) (w4.drewN k) ∧ NumAt (w4.drewN k) q ((S : Nat) : Int) bd3)) := fun k => ⟨below_drewN HF.out k, NumAt.draw HN.out k⟩
                have HQ3 : Hid (∀ k j, Hid (Below (w.heap.size + 1) (w.alloc (.cells #[.int .i64 24, .int .i64 (-126), .int .i64 127, .int .i64 8] 66)) (((w4.drewN k).drewN j).drew) ∧ NumAt (((w4.drewN k).drewN j).drew) q ((S : Nat) : Int) bd3)) := fun k j => ⟨Below.drew (below_drewN (below_drewN HF.out k) j), NumAt.drew (NumAt.draw (NumAt.draw HN.out k) j)⟩
                have HNU : Hid (∀ w', Hid (Below (w.heap.size + 1) (w.alloc (.cells #[.int .i64 24, .int .i64 (-126), .int .i64 127, .int .i64 8] 66)) w' ∧ NumAt w' q ((S : Nat) : Int) bd3) → Calls Tryz.prog 69 #[.pointer (some ⟨q, 0, none⟩)] w' fun r w1 => r = .returned (.int .u64 S) ∧ w1 = w') := fun w' h => NUint64 q S bd3 w' h.out.2 HS64.out
                have HPU : Hid (∀ w', Hid (Below (w.heap.size + 1) (w.alloc (.cells #[.int .i64 24, .int .i64 (-126), .int .i64 127, .int .i64 8] 66)) w' ∧ NumAt w' q ((S : Nat) : Int) bd3) → Calls Tryz.prog 103 #[.agg #[.int .i64 24, .int .i64 (-126), .int .i64 127, .int .i64 8], .bool neg, .int .i64 0, .int .u64 S] w' fun r w1 => r = .returned (.int .u64 y) ∧ Hid (Below (w.heap.size + 1) (w.alloc (.cells #[.int .i64 24, .int .i64 (-126), .int .i64 127, .int .i64 8] 66)) w1 ∧ NumAt w1 q ((S : Nat) : Int) bd3)) := fun w' h => by
                  rw [← hy.out]
                  refine (put32_any neg 0 S w' (by decide) HSL.out).mono ?_
                  rintro r w1 ⟨rfl, T, rfl⟩
                  exact ⟨rfl, fC h.out.1 (al_below _ _) (by have := h.out.1.size; simp at this; omega), h.out.2.al _⟩
                go_wp2_with fail
                go_region_held3 (fun w' => (w'.cell? ⟨w.heap.size, 0, none⟩ = some (.int .i64 24) ∧ w'.cell? ⟨w.heap.size, 1, none⟩ = some (.int .i64 (-126)) ∧ w'.cell? ⟨w.heap.size, 2, none⟩ = some (.int .i64 127) ∧ w'.cell? ⟨w.heap.size, 3, none⟩ = some (.int .i64 8)) ∧ Hid (Below (w.heap.size + 1) (w.alloc (.cells #[.int .i64 24, .int .i64 (-126), .int .i64 127, .int .i64 8] 66)) w' ∧ NumAt w' q ((S : Nat) : Int) bd3)) (exact HK.out _ (by first | assumption | exact HQ1.out _ | exact HQ2.out _ | exact HQ3.out _ _))
                  (first
                    | (go_at_call 69; refine (HNU.out _ (by first | exact HQ2.out _ | exact And.right (by assumption))).mono ?_; rintro r w9 ⟨rfl, rfl⟩)
                    | (go_at_call 103; refine (HPU.out _ (by first | exact HQ2.out _ | exact And.right (by assumption))).mono ?_; rintro r w9 ⟨rfl, HE9⟩))
                all_goals go_wp2
                all_goals go_ret2
                all_goals exact ⟨ret_uf HEQ.out.1.symm HEQ.out.2.symm, bl_B HE9.out.1⟩
              have HSUB := hid hsub
              have hsubI : ¬ (bl : Int) < 24 := by omega
              clear hsub
              have hX : u - (-149) + 1 = (((u - (-149) + 1).toNat : Nat) : Int) := by omega
              obtain ⟨X, hXX⟩ : ∃ X, Hid ((u - (-149) + 1).toNat = X) := ⟨_, rfl⟩
              have hXc : (u - (-149) + 1).toNat = X := hXX.out
              rw [hXc] at hX
              have hX2 : u + 149 + 1 = (X : Int) := by omega
              have hX3 : u + 150 = (X : Int) := by omega
              have HXL : Hid (X < 256) := by have h1 := hXc; have h2 := HOV.out; have h3 := HUB.out; have h4 := HBLLE.out; show X < 256; omega
              obtain ⟨s2, hs2⟩ : ∃ s2 : Nat, Hid (S = s2) := ⟨_, rfl⟩
              have HS2 : Hid (s2 < 18446744073709551616) := by rw [← hs2.out]; have := HS64.out; show S < _; omega
              have hmask : bits .and .u64 (s2 : Int) 8388607 = ((s2 % 8388608 : Nat) : Int) := and_mask s2 23 HS2.out (by decide)
              obtain ⟨f, hff⟩ : ∃ f, Hid (s2 % 8388608 = f) := ⟨_, rfl⟩
              have HFW : Hid (f < 8388608) := by rw [← hff.out]; exact Nat.mod_lt _ (by decide)
              rw [hff.out] at hmask
              have hmk : IntKind.u64.wrap (IntKind.u64.wrap (2 ^ min (IntKind.u64.wrap (IntKind.i64.wrap 23)).toNat 64) - 1) = 8388607 := by decide +kernel
              have HEQ : Hid ((V : Int) = (signN32 neg (packN32 X f) : Int) ∧ FL = 3) := by
                obtain ⟨a1, a2⟩ := HVF.out HOV.out
                rw [HDN.out HCAR.out HSUB.out, hXc, hs2.out, hff.out] at a1
                exact ⟨by rw [a1], a2⟩
              obtain ⟨y, hy⟩ : ∃ y, Hid (signN32 neg (packN32 X f) = y) := ⟨_, rfl⟩
              rw [hy.out] at HEQ
              have HK : Hid (∀ w', Hid (Below (w.heap.size + 1) (w.alloc (.cells #[.int .i64 24, .int .i64 (-126), .int .i64 127, .int .i64 8] 66)) w' ∧ NumAt w' q ((S : Nat) : Int) bd3) → (w'.cell? ⟨w.heap.size, 0, none⟩ = some (.int .i64 24) ∧ w'.cell? ⟨w.heap.size, 1, none⟩ = some (.int .i64 (-126)) ∧ w'.cell? ⟨w.heap.size, 2, none⟩ = some (.int .i64 127) ∧ w'.cell? ⟨w.heap.size, 3, none⟩ = some (.int .i64 8)) ∧ Hid (Below (w.heap.size + 1) (w.alloc (.cells #[.int .i64 24, .int .i64 (-126), .int .i64 127, .int .i64 8] 66)) w' ∧ NumAt w' q ((S : Nat) : Int) bd3)) := fun w' h => ⟨fcells h.out.1, h⟩
              have HQ1 : Hid (∀ k, Hid (Below (w.heap.size + 1) (w.alloc (.cells #[.int .i64 24, .int .i64 (-126), .int .i64 127, .int .i64 8] 66)) (w4.drewN k).drew ∧ NumAt (w4.drewN k).drew q ((S : Nat) : Int) bd3)) := fun k => ⟨Below.drew (below_drewN HF.out k), NumAt.drew (NumAt.draw HN.out k)⟩
              have HQ2 : Hid (∀ k, Hid (Below (w.heap.size + 1) (w.alloc (.cells #[.int .i64 24, .int .i64 (-126), .int .i64 127, .int .i64 8] 66)) (w4.drewN k) ∧ NumAt (w4.drewN k) q ((S : Nat) : Int) bd3)) := fun k => ⟨below_drewN HF.out k, NumAt.draw HN.out k⟩
              have HQ3 : Hid (∀ k j, Hid (Below (w.heap.size + 1) (w.alloc (.cells #[.int .i64 24, .int .i64 (-126), .int .i64 127, .int .i64 8] 66)) (((w4.drewN k).drewN j).drew) ∧ NumAt (((w4.drewN k).drewN j).drew) q ((S : Nat) : Int) bd3)) := fun k j => ⟨Below.drew (below_drewN (below_drewN HF.out k) j), NumAt.drew (NumAt.draw (NumAt.draw HN.out k) j)⟩
              have HNU : Hid (∀ w', Hid (Below (w.heap.size + 1) (w.alloc (.cells #[.int .i64 24, .int .i64 (-126), .int .i64 127, .int .i64 8] 66)) w' ∧ NumAt w' q ((S : Nat) : Int) bd3) → Calls Tryz.prog 69 #[.pointer (some ⟨q, 0, none⟩)] w' fun r w1 => r = .returned (.int .u64 s2) ∧ w1 = w') := fun w' h => by
                rw [← hs2.out]; exact NUint64 q S bd3 w' h.out.2 (by have := HS64.out; omega)
              have HPU : Hid (∀ w', Hid (Below (w.heap.size + 1) (w.alloc (.cells #[.int .i64 24, .int .i64 (-126), .int .i64 127, .int .i64 8] 66)) w' ∧ NumAt w' q ((S : Nat) : Int) bd3) → Calls Tryz.prog 103 #[.agg #[.int .i64 24, .int .i64 (-126), .int .i64 127, .int .i64 8], .bool neg, .int .i64 X, .int .u64 f] w' fun r w1 => r = .returned (.int .u64 y) ∧ Hid (Below (w.heap.size + 1) (w.alloc (.cells #[.int .i64 24, .int .i64 (-126), .int .i64 127, .int .i64 8] 66)) w1 ∧ NumAt w1 q ((S : Nat) : Int) bd3)) := fun w' h => by
                rw [← hy.out]
                refine (put32_any neg X f w' HXL.out HFW.out).mono ?_
                rintro r w1 ⟨rfl, T, rfl⟩
                exact ⟨rfl, fC h.out.1 (al_below _ _) (by have := h.out.1.size; simp at this; omega), h.out.2.al _⟩
              go_wp2_with fail
              go_region_held3 (fun w' => (w'.cell? ⟨w.heap.size, 0, none⟩ = some (.int .i64 24) ∧ w'.cell? ⟨w.heap.size, 1, none⟩ = some (.int .i64 (-126)) ∧ w'.cell? ⟨w.heap.size, 2, none⟩ = some (.int .i64 127) ∧ w'.cell? ⟨w.heap.size, 3, none⟩ = some (.int .i64 8)) ∧ Hid (Below (w.heap.size + 1) (w.alloc (.cells #[.int .i64 24, .int .i64 (-126), .int .i64 127, .int .i64 8] 66)) w' ∧ NumAt w' q ((S : Nat) : Int) bd3)) (exact HK.out _ (by first | assumption | exact HQ1.out _ | exact HQ2.out _ | exact HQ3.out _ _))
                (first
                  | (go_at_call 69; refine (HNU.out _ (by first | exact HQ2.out _ | exact And.right (by assumption))).mono ?_; rintro r w9 ⟨rfl, rfl⟩)
                  | (go_at_call 103; refine (HPU.out _ (by first | exact HQ2.out _ | exact And.right (by assumption))).mono ?_; rintro r w9 ⟨rfl, HE9⟩))
              all_goals go_wp2
              all_goals go_ret2
              all_goals exact ⟨ret_uf HEQ.out.1.symm HEQ.out.2.symm, bl_B HE9.out.1⟩
        · have HVF : Hid (u + (bl : Int) - 1 ≤ 127 → V = signN32 neg (docMag 24 (-149) S u) ∧ FL = 1) := fun h => by
            obtain ⟨a1, a2⟩ := HVN.out h
            rw [HCR.out, if_neg hR0, if_neg hTl] at a2
            exact ⟨a1, a2⟩
          have hTl' : (-126) ≤ T := by omega
          clear hR0 hTl
          go_wp2_with fail
          go_quiet (first | (go_at_call 104; exact Calls.quiet_of (HBL.out _ HN.out _)))
          by_cases hcar : 24 < bl
          · have HCAR := hid hcar
            have hcarI : (24 : Int) < (bl : Int) := by omega
            clear hcar
            go_wp2_with fail
            refine (NRsh q q S 1 bd3 _ (HN.out.draw _).zok (HN.out.draw _) HBD.out (by decide)).mono ?_
            rintro r w8 ⟨rfl, h8, b8⟩
            have HN8 : Hid (NumAt w8 q ((S / 2 : Nat) : Int) bd3) := h8
            have HF8 : Hid (Below (w.heap.size + 1) (w.alloc (.cells #[.int .i64 24, .int .i64 (-126), .int .i64 127, .int .i64 8] 66)) w8) := (below_drewN HF.out _).trans (b8.below (by have := HF.out.size; simp [World.drewN] at this ⊢; omega) hqq)
            clear h8 b8 c0 c1 c2 c3
            obtain ⟨c0, c1, c2, c3⟩ := fcells HF8.out
            obtain ⟨h2a, h2b⟩ := HHALF.out HCAR.out
            obtain ⟨p', hp'⟩ : ∃ p' : Nat, Hid (24 = p') := ⟨_, rfl⟩
            have HBL8 := quiet_len q (S / 2) bd3 p' HBD.out (h2a.trans hp'.out)
            obtain ⟨u', hu'⟩ : ∃ u', Hid (u + 1 = u') := ⟨_, rfl⟩
            have hu'1 : u + 1 = u' := hu'.out
            have hu'2 : IntKind.i64.wrap (u + 1) = u' := by rw [IntWalk.i64_in _ (by omega)]; exact hu'1
            have hu'3 : IntKind.i64.wrap u' = u' := by rw [IntWalk.i64_in _ (by omega)]
            have hpb : p' ≤ 100 := by have := hp'.out; omega
            have HUB : Hid (u' + (p' : Int) = u + (bl : Int)) := by have := hp'.out; show u' + (p' : Int) = u + (bl : Int); omega
            have HLP : Hid (24 ≤ p') := by have := hp'.out; show 24 ≤ p'; omega
            clear h2a h2b
            go_wp2_with fail
            go_quiet (first | (go_at_call 104; first | exact Calls.quiet_of (HBL8.out _ HN8.out _) | exact quiet_of2 (HBL8.out _ HN8.out _)))
            by_cases hov : (127 : Int) < u' + (p' : Int) - 1
            · have HOV : Hid ((127 : Int) < u + (bl : Int) - 1) := by have h2 := HUB.out; show (127 : Int) < u + (bl : Int) - 1; omega
              go_wp2_with fail
              refine (over32_any neg mode _).mono ?_
              rintro r w9 ⟨rfl, b9⟩
              go_wp2
              go_ret2
              exact ⟨ret_uf (HVO.out HOV.out).1.symm (HVO.out HOV.out).2.symm, bl_then (by repeat (first | exact bl_B HF8.out | refine bl_drewN _ ?_)) b9⟩
            · have HOV : Hid (u + (bl : Int) - 1 ≤ 127) := by have h2 := HUB.out; show u + (bl : Int) - 1 ≤ 127; omega
              go_wp2_with fail
              go_quiet (first | (go_at_call 104; exact quiet_of2 (HBL8.out _ HN8.out _)))
              have hsubI : ¬ (p' : Int) < 24 := by have := hp'.out; omega
              have hX : u' - (-149) + 1 = (((u' - (-149) + 1).toNat : Nat) : Int) := by omega
              obtain ⟨X, hXX⟩ : ∃ X, Hid ((u' - (-149) + 1).toNat = X) := ⟨_, rfl⟩
              have hXc : (u' - (-149) + 1).toNat = X := hXX.out
              rw [hXc] at hX
              have hX2 : u' + 149 + 1 = (X : Int) := by omega
              have hX3 : u' + 150 = (X : Int) := by omega
              have HXL : Hid (X < 256) := by have h1 := hXc; have h2 := HOV.out; have h3 := HUB.out; have h4 := HLP.out; show X < 256; omega
              obtain ⟨s2, hs2⟩ : ∃ s2 : Nat, Hid ((S / 2) = s2) := ⟨_, rfl⟩
              have HS2 : Hid (s2 < 18446744073709551616) := by rw [← hs2.out]; have := HS64.out; show (S / 2) < _; omega
              have hmask : bits .and .u64 (s2 : Int) 8388607 = ((s2 % 8388608 : Nat) : Int) := and_mask s2 23 HS2.out (by decide)
              obtain ⟨f, hff⟩ : ∃ f, Hid (s2 % 8388608 = f) := ⟨_, rfl⟩
              have HFW : Hid (f < 8388608) := by rw [← hff.out]; exact Nat.mod_lt _ (by decide)
              rw [hff.out] at hmask
              have hmk : IntKind.u64.wrap (IntKind.u64.wrap (2 ^ min (IntKind.u64.wrap (IntKind.i64.wrap 23)).toNat 64) - 1) = 8388607 := by decide +kernel
              have HEQ : Hid ((V : Int) = (signN32 neg (packN32 X f) : Int) ∧ FL = 1) := by
                obtain ⟨a1, a2⟩ := HVF.out HOV.out
                rw [HDC.out HCAR.out, hu'.out, hXc, hs2.out, hff.out] at a1
                exact ⟨by rw [a1], a2⟩
              obtain ⟨y, hy⟩ : ∃ y, Hid (signN32 neg (packN32 X f) = y) := ⟨_, rfl⟩
              rw [hy.out] at HEQ
              have HK : Hid (∀ w', Hid (Below (w.heap.size + 1) (w.alloc (.cells #[.int .i64 24, .int .i64 (-126), .int .i64 127, .int .i64 8] 66)) w' ∧ NumAt w' q (((S / 2) : Nat) : Int) bd3) → (w'.cell? ⟨w.heap.size, 0, none⟩ = some (.int .i64 24) ∧ w'.cell? ⟨w.heap.size, 1, none⟩ = some (.int .i64 (-126)) ∧ w'.cell? ⟨w.heap.size, 2, none⟩ = some (.int .i64 127) ∧ w'.cell? ⟨w.heap.size, 3, none⟩ = some (.int .i64 8)) ∧ Hid (Below (w.heap.size + 1) (w.alloc (.cells #[.int .i64 24, .int .i64 (-126), .int .i64 127, .int .i64 8] 66)) w' ∧ NumAt w' q (((S / 2) : Nat) : Int) bd3)) := fun w' h => ⟨fcells h.out.1, h⟩
              have HQ1 : Hid (∀ k, Hid (Below (w.heap.size + 1) (w.alloc (.cells #[.int .i64 24, .int .i64 (-126), .int .i64 127, .int .i64 8] 66)) (w8.drewN k).drew ∧ NumAt (w8.drewN k).drew q (((S / 2) : Nat) : Int) bd3)) := fun k => ⟨Below.drew (below_drewN HF8.out k), NumAt.drew (NumAt.draw HN8.out k)⟩
              have HQ2 : Hid (∀ k, Hid (Below (w.heap.size + 1) (w.alloc (.cells #[.int .i64 24, .int .i64 (-126), .int .i64 127, .int .i64 8] 66)) (w8.drewN k) ∧ NumAt (w8.drewN k) q (((S / 2) : Nat) : Int) bd3)) := fun k => ⟨below_drewN HF8.out k, NumAt.draw HN8.out k⟩
              have HQ3 : Hid (∀ k j, Hid (Below (w.heap.size + 1) (w.alloc (.cells #[.int .i64 24, .int .i64 (-126), .int .i64 127, .int .i64 8] 66)) (((w8.drewN k).drewN j).drew) ∧ NumAt (((w8.drewN k).drewN j).drew) q (((S / 2) : Nat) : Int) bd3)) := fun k j => ⟨Below.drew (below_drewN (below_drewN HF8.out k) j), NumAt.drew (NumAt.draw (NumAt.draw HN8.out k) j)⟩
              have HNU : Hid (∀ w', Hid (Below (w.heap.size + 1) (w.alloc (.cells #[.int .i64 24, .int .i64 (-126), .int .i64 127, .int .i64 8] 66)) w' ∧ NumAt w' q (((S / 2) : Nat) : Int) bd3) → Calls Tryz.prog 69 #[.pointer (some ⟨q, 0, none⟩)] w' fun r w1 => r = .returned (.int .u64 s2) ∧ w1 = w') := fun w' h => by
                rw [← hs2.out]; exact NUint64 q (S / 2) bd3 w' h.out.2 (by have := HS64.out; omega)
              have HPU : Hid (∀ w', Hid (Below (w.heap.size + 1) (w.alloc (.cells #[.int .i64 24, .int .i64 (-126), .int .i64 127, .int .i64 8] 66)) w' ∧ NumAt w' q (((S / 2) : Nat) : Int) bd3) → Calls Tryz.prog 103 #[.agg #[.int .i64 24, .int .i64 (-126), .int .i64 127, .int .i64 8], .bool neg, .int .i64 X, .int .u64 f] w' fun r w1 => r = .returned (.int .u64 y) ∧ Hid (Below (w.heap.size + 1) (w.alloc (.cells #[.int .i64 24, .int .i64 (-126), .int .i64 127, .int .i64 8] 66)) w1 ∧ NumAt w1 q (((S / 2) : Nat) : Int) bd3)) := fun w' h => by
                rw [← hy.out]
                refine (put32_any neg X f w' HXL.out HFW.out).mono ?_
                rintro r w1 ⟨rfl, T, rfl⟩
                exact ⟨rfl, fC h.out.1 (al_below _ _) (by have := h.out.1.size; simp at this; omega), h.out.2.al _⟩
              go_wp2_with fail
              go_region_held3 (fun w' => (w'.cell? ⟨w.heap.size, 0, none⟩ = some (.int .i64 24) ∧ w'.cell? ⟨w.heap.size, 1, none⟩ = some (.int .i64 (-126)) ∧ w'.cell? ⟨w.heap.size, 2, none⟩ = some (.int .i64 127) ∧ w'.cell? ⟨w.heap.size, 3, none⟩ = some (.int .i64 8)) ∧ Hid (Below (w.heap.size + 1) (w.alloc (.cells #[.int .i64 24, .int .i64 (-126), .int .i64 127, .int .i64 8] 66)) w' ∧ NumAt w' q (((S / 2) : Nat) : Int) bd3)) (exact HK.out _ (by first | assumption | exact HQ1.out _ | exact HQ2.out _ | exact HQ3.out _ _))
                (first
                  | (go_at_call 69; refine (HNU.out _ (by first | exact HQ2.out _ | exact And.right (by assumption))).mono ?_; rintro r w9 ⟨rfl, rfl⟩)
                  | (go_at_call 103; refine (HPU.out _ (by first | exact HQ2.out _ | exact And.right (by assumption))).mono ?_; rintro r w9 ⟨rfl, HE9⟩))
              all_goals go_wp2
              all_goals go_ret2
              all_goals exact ⟨ret_uf HEQ.out.1.symm HEQ.out.2.symm, bl_B HE9.out.1⟩
          · have HCAR := hid hcar
            have hcarI : ¬ (24 : Int) < (bl : Int) := by omega
            have HUB : Hid (u + (bl : Int) = u + (bl : Int)) := rfl
            have hpb : bl ≤ 100 := by have := HBLLE.out; omega
            clear hcar
            go_wp2_with fail
            go_quiet (first | (go_at_call 104; first | exact Calls.quiet_of (HBL.out _ HN.out _) | exact quiet_of2 (HBL.out _ HN.out _)))
            by_cases hov : (127 : Int) < u + (bl : Int) - 1
            · have HOV : Hid ((127 : Int) < u + (bl : Int) - 1) := by have h2 := HUB.out; show (127 : Int) < u + (bl : Int) - 1; omega
              go_wp2_with fail
              refine (over32_any neg mode _).mono ?_
              rintro r w9 ⟨rfl, b9⟩
              go_wp2
              go_ret2
              exact ⟨ret_uf (HVO.out HOV.out).1.symm (HVO.out HOV.out).2.symm, bl_then (by repeat (first | exact bl_B HF.out | refine bl_drewN _ ?_)) b9⟩
            · have HOV : Hid (u + (bl : Int) - 1 ≤ 127) := by have h2 := HUB.out; show u + (bl : Int) - 1 ≤ 127; omega
              go_wp2_with fail
              go_quiet (first | (go_at_call 104; exact quiet_of2 (HBL.out _ HN.out _)))
              by_cases hsub : bl < 24
              · have hsubI : (bl : Int) < 24 := by omega
                have HSL : Hid (S < 8388608) := HSub.out hsub
                have HEQ : Hid ((V : Int) = (signN32 neg (packN32 0 S) : Int) ∧ FL = 1) := by
                  obtain ⟨a1, a2⟩ := HVF.out HOV.out
                  rw [HDS.out HCAR.out hsub] at a1
                  exact ⟨by rw [a1], a2⟩
                obtain ⟨y, hy⟩ : ∃ y, Hid (signN32 neg (packN32 0 S) = y) := ⟨_, rfl⟩
                rw [hy.out] at HEQ
                clear hsub
                have HK : Hid (∀ w', Hid (Below (w.heap.size + 1) (w.alloc (.cells #[.int .i64 24, .int .i64 (-126), .int .i64 127, .int .i64 8] 66)) w' ∧ NumAt w' q ((S : Nat) : Int) bd3) → (w'.cell? ⟨w.heap.size, 0, none⟩ = some (.int .i64 24) ∧ w'.cell? ⟨w.heap.size, 1, none⟩ = some (.int .i64 (-126)) ∧ w'.cell? ⟨w.heap.size, 2, none⟩ = some (.int .i64 127) ∧ w'.cell? ⟨w.heap.size, 3, none⟩ = some (.int .i64 8)) ∧ Hid (Below (w.heap.size + 1) (w.alloc (.cells #[.int .i64 24, .int .i64 (-126), .int .i64 127, .int .i64 8] 66)) w' ∧ NumAt w' q ((S : Nat) : Int) bd3)) := fun w' h => ⟨fcells h.out.1, h⟩
                have HQ1 : Hid (∀ k, Hid (Below (w.heap.size + 1) (w.alloc (.cells #[.int .i64 24, .int .i64 (-126), .int .i64 127, .int .i64 8] 66)) (w4.drewN k).drew ∧ NumAt (w4.drewN k).drew q ((S : Nat) : Int) bd3)) := fun k => ⟨Below.drew (below_drewN HF.out k), NumAt.drew (NumAt.draw HN.out k)⟩
                have HQ2 : Hid (∀ k, Hid (Below (w.heap.size + 1) (w.alloc (.cells #[.int .i64 24, .int .i64 (-126), .int .i64 127, .int .i64 8] 66)) (w4.drewN k) ∧ NumAt (w4.drewN k) q ((S : Nat) : Int) bd3)) := fun k => ⟨below_drewN HF.out k, NumAt.draw HN.out k⟩
                have HQ3 : Hid (∀ k j, Hid (Below (w.heap.size + 1) (w.alloc (.cells #[.int .i64 24, .int .i64 (-126), .int .i64 127, .int .i64 8] 66)) (((w4.drewN k).drewN j).drew) ∧ NumAt (((w4.drewN k).drewN j).drew) q ((S : Nat) : Int) bd3)) := fun k j => ⟨Below.drew (below_drewN (below_drewN HF.out k) j), NumAt.drew (NumAt.draw (NumAt.draw HN.out k) j)⟩
                have HNU : Hid (∀ w', Hid (Below (w.heap.size + 1) (w.alloc (.cells #[.int .i64 24, .int .i64 (-126), .int .i64 127, .int .i64 8] 66)) w' ∧ NumAt w' q ((S : Nat) : Int) bd3) → Calls Tryz.prog 69 #[.pointer (some ⟨q, 0, none⟩)] w' fun r w1 => r = .returned (.int .u64 S) ∧ w1 = w') := fun w' h => NUint64 q S bd3 w' h.out.2 HS64.out
                have HPU : Hid (∀ w', Hid (Below (w.heap.size + 1) (w.alloc (.cells #[.int .i64 24, .int .i64 (-126), .int .i64 127, .int .i64 8] 66)) w' ∧ NumAt w' q ((S : Nat) : Int) bd3) → Calls Tryz.prog 103 #[.agg #[.int .i64 24, .int .i64 (-126), .int .i64 127, .int .i64 8], .bool neg, .int .i64 0, .int .u64 S] w' fun r w1 => r = .returned (.int .u64 y) ∧ Hid (Below (w.heap.size + 1) (w.alloc (.cells #[.int .i64 24, .int .i64 (-126), .int .i64 127, .int .i64 8] 66)) w1 ∧ NumAt w1 q ((S : Nat) : Int) bd3)) := fun w' h => by
                  rw [← hy.out]
                  refine (put32_any neg 0 S w' (by decide) HSL.out).mono ?_
                  rintro r w1 ⟨rfl, T, rfl⟩
                  exact ⟨rfl, fC h.out.1 (al_below _ _) (by have := h.out.1.size; simp at this; omega), h.out.2.al _⟩
                go_wp2_with fail
                go_region_held3 (fun w' => (w'.cell? ⟨w.heap.size, 0, none⟩ = some (.int .i64 24) ∧ w'.cell? ⟨w.heap.size, 1, none⟩ = some (.int .i64 (-126)) ∧ w'.cell? ⟨w.heap.size, 2, none⟩ = some (.int .i64 127) ∧ w'.cell? ⟨w.heap.size, 3, none⟩ = some (.int .i64 8)) ∧ Hid (Below (w.heap.size + 1) (w.alloc (.cells #[.int .i64 24, .int .i64 (-126), .int .i64 127, .int .i64 8] 66)) w' ∧ NumAt w' q ((S : Nat) : Int) bd3)) (exact HK.out _ (by first | assumption | exact HQ1.out _ | exact HQ2.out _ | exact HQ3.out _ _))
                  (first
                    | (go_at_call 69; refine (HNU.out _ (by first | exact HQ2.out _ | exact And.right (by assumption))).mono ?_; rintro r w9 ⟨rfl, rfl⟩)
                    | (go_at_call 103; refine (HPU.out _ (by first | exact HQ2.out _ | exact And.right (by assumption))).mono ?_; rintro r w9 ⟨rfl, HE9⟩))
                all_goals go_wp2
                all_goals go_ret2
                all_goals exact ⟨ret_uf HEQ.out.1.symm HEQ.out.2.symm, bl_B HE9.out.1⟩
              have HSUB := hid hsub
              have hsubI : ¬ (bl : Int) < 24 := by omega
              clear hsub
              have hX : u - (-149) + 1 = (((u - (-149) + 1).toNat : Nat) : Int) := by omega
              obtain ⟨X, hXX⟩ : ∃ X, Hid ((u - (-149) + 1).toNat = X) := ⟨_, rfl⟩
              have hXc : (u - (-149) + 1).toNat = X := hXX.out
              rw [hXc] at hX
              have hX2 : u + 149 + 1 = (X : Int) := by omega
              have hX3 : u + 150 = (X : Int) := by omega
              have HXL : Hid (X < 256) := by have h1 := hXc; have h2 := HOV.out; have h3 := HUB.out; have h4 := HBLLE.out; show X < 256; omega
              obtain ⟨s2, hs2⟩ : ∃ s2 : Nat, Hid (S = s2) := ⟨_, rfl⟩
              have HS2 : Hid (s2 < 18446744073709551616) := by rw [← hs2.out]; have := HS64.out; show S < _; omega
              have hmask : bits .and .u64 (s2 : Int) 8388607 = ((s2 % 8388608 : Nat) : Int) := and_mask s2 23 HS2.out (by decide)
              obtain ⟨f, hff⟩ : ∃ f, Hid (s2 % 8388608 = f) := ⟨_, rfl⟩
              have HFW : Hid (f < 8388608) := by rw [← hff.out]; exact Nat.mod_lt _ (by decide)
              rw [hff.out] at hmask
              have hmk : IntKind.u64.wrap (IntKind.u64.wrap (2 ^ min (IntKind.u64.wrap (IntKind.i64.wrap 23)).toNat 64) - 1) = 8388607 := by decide +kernel
              have HEQ : Hid ((V : Int) = (signN32 neg (packN32 X f) : Int) ∧ FL = 1) := by
                obtain ⟨a1, a2⟩ := HVF.out HOV.out
                rw [HDN.out HCAR.out HSUB.out, hXc, hs2.out, hff.out] at a1
                exact ⟨by rw [a1], a2⟩
              obtain ⟨y, hy⟩ : ∃ y, Hid (signN32 neg (packN32 X f) = y) := ⟨_, rfl⟩
              rw [hy.out] at HEQ
              have HK : Hid (∀ w', Hid (Below (w.heap.size + 1) (w.alloc (.cells #[.int .i64 24, .int .i64 (-126), .int .i64 127, .int .i64 8] 66)) w' ∧ NumAt w' q ((S : Nat) : Int) bd3) → (w'.cell? ⟨w.heap.size, 0, none⟩ = some (.int .i64 24) ∧ w'.cell? ⟨w.heap.size, 1, none⟩ = some (.int .i64 (-126)) ∧ w'.cell? ⟨w.heap.size, 2, none⟩ = some (.int .i64 127) ∧ w'.cell? ⟨w.heap.size, 3, none⟩ = some (.int .i64 8)) ∧ Hid (Below (w.heap.size + 1) (w.alloc (.cells #[.int .i64 24, .int .i64 (-126), .int .i64 127, .int .i64 8] 66)) w' ∧ NumAt w' q ((S : Nat) : Int) bd3)) := fun w' h => ⟨fcells h.out.1, h⟩
              have HQ1 : Hid (∀ k, Hid (Below (w.heap.size + 1) (w.alloc (.cells #[.int .i64 24, .int .i64 (-126), .int .i64 127, .int .i64 8] 66)) (w4.drewN k).drew ∧ NumAt (w4.drewN k).drew q ((S : Nat) : Int) bd3)) := fun k => ⟨Below.drew (below_drewN HF.out k), NumAt.drew (NumAt.draw HN.out k)⟩
              have HQ2 : Hid (∀ k, Hid (Below (w.heap.size + 1) (w.alloc (.cells #[.int .i64 24, .int .i64 (-126), .int .i64 127, .int .i64 8] 66)) (w4.drewN k) ∧ NumAt (w4.drewN k) q ((S : Nat) : Int) bd3)) := fun k => ⟨below_drewN HF.out k, NumAt.draw HN.out k⟩
              have HQ3 : Hid (∀ k j, Hid (Below (w.heap.size + 1) (w.alloc (.cells #[.int .i64 24, .int .i64 (-126), .int .i64 127, .int .i64 8] 66)) (((w4.drewN k).drewN j).drew) ∧ NumAt (((w4.drewN k).drewN j).drew) q ((S : Nat) : Int) bd3)) := fun k j => ⟨Below.drew (below_drewN (below_drewN HF.out k) j), NumAt.drew (NumAt.draw (NumAt.draw HN.out k) j)⟩
              have HNU : Hid (∀ w', Hid (Below (w.heap.size + 1) (w.alloc (.cells #[.int .i64 24, .int .i64 (-126), .int .i64 127, .int .i64 8] 66)) w' ∧ NumAt w' q ((S : Nat) : Int) bd3) → Calls Tryz.prog 69 #[.pointer (some ⟨q, 0, none⟩)] w' fun r w1 => r = .returned (.int .u64 s2) ∧ w1 = w') := fun w' h => by
                rw [← hs2.out]; exact NUint64 q S bd3 w' h.out.2 (by have := HS64.out; omega)
              have HPU : Hid (∀ w', Hid (Below (w.heap.size + 1) (w.alloc (.cells #[.int .i64 24, .int .i64 (-126), .int .i64 127, .int .i64 8] 66)) w' ∧ NumAt w' q ((S : Nat) : Int) bd3) → Calls Tryz.prog 103 #[.agg #[.int .i64 24, .int .i64 (-126), .int .i64 127, .int .i64 8], .bool neg, .int .i64 X, .int .u64 f] w' fun r w1 => r = .returned (.int .u64 y) ∧ Hid (Below (w.heap.size + 1) (w.alloc (.cells #[.int .i64 24, .int .i64 (-126), .int .i64 127, .int .i64 8] 66)) w1 ∧ NumAt w1 q ((S : Nat) : Int) bd3)) := fun w' h => by
                rw [← hy.out]
                refine (put32_any neg X f w' HXL.out HFW.out).mono ?_
                rintro r w1 ⟨rfl, T, rfl⟩
                exact ⟨rfl, fC h.out.1 (al_below _ _) (by have := h.out.1.size; simp at this; omega), h.out.2.al _⟩
              go_wp2_with fail
              go_region_held3 (fun w' => (w'.cell? ⟨w.heap.size, 0, none⟩ = some (.int .i64 24) ∧ w'.cell? ⟨w.heap.size, 1, none⟩ = some (.int .i64 (-126)) ∧ w'.cell? ⟨w.heap.size, 2, none⟩ = some (.int .i64 127) ∧ w'.cell? ⟨w.heap.size, 3, none⟩ = some (.int .i64 8)) ∧ Hid (Below (w.heap.size + 1) (w.alloc (.cells #[.int .i64 24, .int .i64 (-126), .int .i64 127, .int .i64 8] 66)) w' ∧ NumAt w' q ((S : Nat) : Int) bd3)) (exact HK.out _ (by first | assumption | exact HQ1.out _ | exact HQ2.out _ | exact HQ3.out _ _))
                (first
                  | (go_at_call 69; refine (HNU.out _ (by first | exact HQ2.out _ | exact And.right (by assumption))).mono ?_; rintro r w9 ⟨rfl, rfl⟩)
                  | (go_at_call 103; refine (HPU.out _ (by first | exact HQ2.out _ | exact And.right (by assumption))).mono ?_; rintro r w9 ⟨rfl, HE9⟩))
              all_goals go_wp2
              all_goals go_ret2
              all_goals exact ⟨ret_uf HEQ.out.1.symm HEQ.out.2.symm, bl_B HE9.out.1⟩
    · have hR0 : R ≠ 0 := fun c => by have := HB0.out c; cases this
      have hCC : -2 < C := by have := hC.out; omega
      have HSQ : Hid ((Q1 : Int) + ((1 : Nat) : Int) = (S : Int)) := by have := HSV.out; simp at this; show (Q1 : Int) + ((1 : Nat) : Int) = (S : Int); omega
      go_wp2_with fail
      refine (NNew 1 _ (by decide)).mono ?_
      rintro r w5 ⟨rfl, h5, b5⟩
      have HO5 := hid h5
      have HN5 := hid (HN4.out.below b5)
      have HF5 : Hid (Below (w.heap.size + 1) (w.alloc (.cells #[.int .i64 24, .int .i64 (-126), .int .i64 127, .int .i64 8] 66)) w5) := fC HF4.out b5 (by have := HF4.out.size; simp at this; omega)
      clear h5 b5
      go_wp2_with fail
      refine (NAdd q q w4.heap.size (Q1 : Int) ((1 : Nat) : Int) bd 2 w5 HN5.out.zok (Or.inl ⟨by omega, by decide⟩) HN5.out HO5.out (by have := HB.out; omega) (by decide)).mono ?_
      rintro r w6 ⟨rfl, h6, b6⟩
      rw [HSQ.out] at h6
      obtain ⟨bd3, hbd3⟩ : ∃ bd3, Hid (max bd 2 + 1 = bd3) := ⟨_, rfl⟩
      have HBD : Hid (bd3 ≤ 900000) := by have := hbd3.out; have := HB.out; show bd3 ≤ 900000; omega
      rw [hbd3.out] at h6
      have HN := hid h6
      have HF : Hid (Below (w.heap.size + 1) (w.alloc (.cells #[.int .i64 24, .int .i64 (-126), .int .i64 127, .int .i64 8] 66)) w6) := HF5.out.trans (b6.below (by have := HF5.out.size; simp at this; omega) hqq)
      clear h6 b6 HF5 HN5 HO5 HF4 HN4
      have HBL := quiet_len q S bd3 bl HBD.out hbl.out
      obtain ⟨c0, c1, c2, c3⟩ := fcells HF.out
      by_cases hTl : T < (-126)
      · have HVF : Hid (u + (bl : Int) - 1 ≤ 127 → V = signN32 neg (docMag 24 (-149) S u) ∧ FL = 3) := fun h => by
          obtain ⟨a1, a2⟩ := HVN.out h
          rw [HCR.out, if_neg hR0, if_pos hTl] at a2
          exact ⟨a1, a2⟩
        clear hR0
        go_wp2_with fail
        go_quiet (first | (go_at_call 104; exact Calls.quiet_of (HBL.out _ HN.out _)))
        by_cases hcar : 24 < bl
        · have HCAR := hid hcar
          have hcarI : (24 : Int) < (bl : Int) := by omega
          clear hcar
          go_wp2_with fail
          refine (NRsh q q S 1 bd3 _ (HN.out.draw _).zok (HN.out.draw _) HBD.out (by decide)).mono ?_
          rintro r w8 ⟨rfl, h8, b8⟩
          have HN8 : Hid (NumAt w8 q ((S / 2 : Nat) : Int) bd3) := h8
          have HF8 : Hid (Below (w.heap.size + 1) (w.alloc (.cells #[.int .i64 24, .int .i64 (-126), .int .i64 127, .int .i64 8] 66)) w8) := (below_drewN HF.out _).trans (b8.below (by have := HF.out.size; simp [World.drewN] at this ⊢; omega) hqq)
          clear h8 b8 c0 c1 c2 c3
          obtain ⟨c0, c1, c2, c3⟩ := fcells HF8.out
          obtain ⟨h2a, h2b⟩ := HHALF.out HCAR.out
          obtain ⟨p', hp'⟩ : ∃ p' : Nat, Hid (24 = p') := ⟨_, rfl⟩
          have HBL8 := quiet_len q (S / 2) bd3 p' HBD.out (h2a.trans hp'.out)
          obtain ⟨u', hu'⟩ : ∃ u', Hid (u + 1 = u') := ⟨_, rfl⟩
          have hu'1 : u + 1 = u' := hu'.out
          have hu'2 : IntKind.i64.wrap (u + 1) = u' := by rw [IntWalk.i64_in _ (by omega)]; exact hu'1
          have hu'3 : IntKind.i64.wrap u' = u' := by rw [IntWalk.i64_in _ (by omega)]
          have hpb : p' ≤ 100 := by have := hp'.out; omega
          have HUB : Hid (u' + (p' : Int) = u + (bl : Int)) := by have := hp'.out; show u' + (p' : Int) = u + (bl : Int); omega
          have HLP : Hid (24 ≤ p') := by have := hp'.out; show 24 ≤ p'; omega
          clear h2a h2b
          go_wp2_with fail
          go_quiet (first | (go_at_call 104; first | exact Calls.quiet_of (HBL8.out _ HN8.out _) | exact quiet_of2 (HBL8.out _ HN8.out _)))
          by_cases hov : (127 : Int) < u' + (p' : Int) - 1
          · exfalso; have h3 := HBLLE.out; have h4 := HUB.out; omega
          · have HOV : Hid (u + (bl : Int) - 1 ≤ 127) := by have h2 := HUB.out; show u + (bl : Int) - 1 ≤ 127; omega
            go_wp2_with fail
            go_quiet (first | (go_at_call 104; exact quiet_of2 (HBL8.out _ HN8.out _)))
            have hsubI : ¬ (p' : Int) < 24 := by have := hp'.out; omega
            have hX : u' - (-149) + 1 = (((u' - (-149) + 1).toNat : Nat) : Int) := by omega
            obtain ⟨X, hXX⟩ : ∃ X, Hid ((u' - (-149) + 1).toNat = X) := ⟨_, rfl⟩
            have hXc : (u' - (-149) + 1).toNat = X := hXX.out
            rw [hXc] at hX
            have hX2 : u' + 149 + 1 = (X : Int) := by omega
            have hX3 : u' + 150 = (X : Int) := by omega
            have HXL : Hid (X < 256) := by have h1 := hXc; have h2 := HOV.out; have h3 := HUB.out; have h4 := HLP.out; show X < 256; omega
            obtain ⟨s2, hs2⟩ : ∃ s2 : Nat, Hid ((S / 2) = s2) := ⟨_, rfl⟩
            have HS2 : Hid (s2 < 18446744073709551616) := by rw [← hs2.out]; have := HS64.out; show (S / 2) < _; omega
            have hmask : bits .and .u64 (s2 : Int) 8388607 = ((s2 % 8388608 : Nat) : Int) := and_mask s2 23 HS2.out (by decide)
            obtain ⟨f, hff⟩ : ∃ f, Hid (s2 % 8388608 = f) := ⟨_, rfl⟩
            have HFW : Hid (f < 8388608) := by rw [← hff.out]; exact Nat.mod_lt _ (by decide)
            rw [hff.out] at hmask
            have hmk : IntKind.u64.wrap (IntKind.u64.wrap (2 ^ min (IntKind.u64.wrap (IntKind.i64.wrap 23)).toNat 64) - 1) = 8388607 := by decide +kernel
            have HEQ : Hid ((V : Int) = (signN32 neg (packN32 X f) : Int) ∧ FL = 3) := by
              obtain ⟨a1, a2⟩ := HVF.out HOV.out
              rw [HDC.out HCAR.out, hu'.out, hXc, hs2.out, hff.out] at a1
              exact ⟨by rw [a1], a2⟩
            obtain ⟨y, hy⟩ : ∃ y, Hid (signN32 neg (packN32 X f) = y) := ⟨_, rfl⟩
            rw [hy.out] at HEQ
            have HK : Hid (∀ w', Hid (Below (w.heap.size + 1) (w.alloc (.cells #[.int .i64 24, .int .i64 (-126), .int .i64 127, .int .i64 8] 66)) w' ∧ NumAt w' q (((S / 2) : Nat) : Int) bd3) → (w'.cell? ⟨w.heap.size, 0, none⟩ = some (.int .i64 24) ∧ w'.cell? ⟨w.heap.size, 1, none⟩ = some (.int .i64 (-126)) ∧ w'.cell? ⟨w.heap.size, 2, none⟩ = some (.int .i64 127) ∧ w'.cell? ⟨w.heap.size, 3, none⟩ = some (.int .i64 8)) ∧ Hid (Below (w.heap.size + 1) (w.alloc (.cells #[.int .i64 24, .int .i64 (-126), .int .i64 127, .int .i64 8] 66)) w' ∧ NumAt w' q (((S / 2) : Nat) : Int) bd3)) := fun w' h => ⟨fcells h.out.1, h⟩
            have HQ1 : Hid (∀ k, Hid (Below (w.heap.size + 1) (w.alloc (.cells #[.int .i64 24, .int .i64 (-126), .int .i64 127, .int .i64 8] 66)) (w8.drewN k).drew ∧ NumAt (w8.drewN k).drew q (((S / 2) : Nat) : Int) bd3)) := fun k => ⟨Below.drew (below_drewN HF8.out k), NumAt.drew (NumAt.draw HN8.out k)⟩
            have HQ2 : Hid (∀ k, Hid (Below (w.heap.size + 1) (w.alloc (.cells #[.int .i64 24, .int .i64 (-126), .int .i64 127, .int .i64 8] 66)) (w8.drewN k) ∧ NumAt (w8.drewN k) q (((S / 2) : Nat) : Int) bd3)) := fun k => ⟨below_drewN HF8.out k, NumAt.draw HN8.out k⟩
            have HQ3 : Hid (∀ k j, Hid (Below (w.heap.size + 1) (w.alloc (.cells #[.int .i64 24, .int .i64 (-126), .int .i64 127, .int .i64 8] 66)) (((w8.drewN k).drewN j).drew) ∧ NumAt (((w8.drewN k).drewN j).drew) q (((S / 2) : Nat) : Int) bd3)) := fun k j => ⟨Below.drew (below_drewN (below_drewN HF8.out k) j), NumAt.drew (NumAt.draw (NumAt.draw HN8.out k) j)⟩
            have HNU : Hid (∀ w', Hid (Below (w.heap.size + 1) (w.alloc (.cells #[.int .i64 24, .int .i64 (-126), .int .i64 127, .int .i64 8] 66)) w' ∧ NumAt w' q (((S / 2) : Nat) : Int) bd3) → Calls Tryz.prog 69 #[.pointer (some ⟨q, 0, none⟩)] w' fun r w1 => r = .returned (.int .u64 s2) ∧ w1 = w') := fun w' h => by
              rw [← hs2.out]; exact NUint64 q (S / 2) bd3 w' h.out.2 (by have := HS64.out; omega)
            have HPU : Hid (∀ w', Hid (Below (w.heap.size + 1) (w.alloc (.cells #[.int .i64 24, .int .i64 (-126), .int .i64 127, .int .i64 8] 66)) w' ∧ NumAt w' q (((S / 2) : Nat) : Int) bd3) → Calls Tryz.prog 103 #[.agg #[.int .i64 24, .int .i64 (-126), .int .i64 127, .int .i64 8], .bool neg, .int .i64 X, .int .u64 f] w' fun r w1 => r = .returned (.int .u64 y) ∧ Hid (Below (w.heap.size + 1) (w.alloc (.cells #[.int .i64 24, .int .i64 (-126), .int .i64 127, .int .i64 8] 66)) w1 ∧ NumAt w1 q (((S / 2) : Nat) : Int) bd3)) := fun w' h => by
              rw [← hy.out]
              refine (put32_any neg X f w' HXL.out HFW.out).mono ?_
              rintro r w1 ⟨rfl, T, rfl⟩
              exact ⟨rfl, fC h.out.1 (al_below _ _) (by have := h.out.1.size; simp at this; omega), h.out.2.al _⟩
            go_wp2_with fail
            go_region_held3 (fun w' => (w'.cell? ⟨w.heap.size, 0, none⟩ = some (.int .i64 24) ∧ w'.cell? ⟨w.heap.size, 1, none⟩ = some (.int .i64 (-126)) ∧ w'.cell? ⟨w.heap.size, 2, none⟩ = some (.int .i64 127) ∧ w'.cell? ⟨w.heap.size, 3, none⟩ = some (.int .i64 8)) ∧ Hid (Below (w.heap.size + 1) (w.alloc (.cells #[.int .i64 24, .int .i64 (-126), .int .i64 127, .int .i64 8] 66)) w' ∧ NumAt w' q (((S / 2) : Nat) : Int) bd3)) (exact HK.out _ (by first | assumption | exact HQ1.out _ | exact HQ2.out _ | exact HQ3.out _ _))
              (first
                | (go_at_call 69; refine (HNU.out _ (by first | exact HQ2.out _ | exact And.right (by assumption))).mono ?_; rintro r w9 ⟨rfl, rfl⟩)
                | (go_at_call 103; refine (HPU.out _ (by first | exact HQ2.out _ | exact And.right (by assumption))).mono ?_; rintro r w9 ⟨rfl, HE9⟩))
            all_goals go_wp2
            all_goals go_ret2
            all_goals exact ⟨ret_uf HEQ.out.1.symm HEQ.out.2.symm, bl_B HE9.out.1⟩
        · have HCAR := hid hcar
          have hcarI : ¬ (24 : Int) < (bl : Int) := by omega
          have HUB : Hid (u + (bl : Int) = u + (bl : Int)) := rfl
          have hpb : bl ≤ 100 := by have := HBLLE.out; omega
          clear hcar
          go_wp2_with fail
          go_quiet (first | (go_at_call 104; first | exact Calls.quiet_of (HBL.out _ HN.out _) | exact quiet_of2 (HBL.out _ HN.out _)))
          by_cases hov : (127 : Int) < u + (bl : Int) - 1
          · exfalso; have h3 := HBLLE.out; have h4 := HUB.out; omega
          · have HOV : Hid (u + (bl : Int) - 1 ≤ 127) := by have h2 := HUB.out; show u + (bl : Int) - 1 ≤ 127; omega
            go_wp2_with fail
            go_quiet (first | (go_at_call 104; exact quiet_of2 (HBL.out _ HN.out _)))
            by_cases hsub : bl < 24
            · have hsubI : (bl : Int) < 24 := by omega
              have HSL : Hid (S < 8388608) := HSub.out hsub
              have HEQ : Hid ((V : Int) = (signN32 neg (packN32 0 S) : Int) ∧ FL = 3) := by
                obtain ⟨a1, a2⟩ := HVF.out HOV.out
                rw [HDS.out HCAR.out hsub] at a1
                exact ⟨by rw [a1], a2⟩
              obtain ⟨y, hy⟩ : ∃ y, Hid (signN32 neg (packN32 0 S) = y) := ⟨_, rfl⟩
              rw [hy.out] at HEQ
              clear hsub
              have HK : Hid (∀ w', Hid (Below (w.heap.size + 1) (w.alloc (.cells #[.int .i64 24, .int .i64 (-126), .int .i64 127, .int .i64 8] 66)) w' ∧ NumAt w' q ((S : Nat) : Int) bd3) → (w'.cell? ⟨w.heap.size, 0, none⟩ = some (.int .i64 24) ∧ w'.cell? ⟨w.heap.size, 1, none⟩ = some (.int .i64 (-126)) ∧ w'.cell? ⟨w.heap.size, 2, none⟩ = some (.int .i64 127) ∧ w'.cell? ⟨w.heap.size, 3, none⟩ = some (.int .i64 8)) ∧ Hid (Below (w.heap.size + 1) (w.alloc (.cells #[.int .i64 24, .int .i64 (-126), .int .i64 127, .int .i64 8] 66)) w' ∧ NumAt w' q ((S : Nat) : Int) bd3)) := fun w' h => ⟨fcells h.out.1, h⟩
              have HQ1 : Hid (∀ k, Hid (Below (w.heap.size + 1) (w.alloc (.cells #[.int .i64 24, .int .i64 (-126), .int .i64 127, .int .i64 8] 66)) (w6.drewN k).drew ∧ NumAt (w6.drewN k).drew q ((S : Nat) : Int) bd3)) := fun k => ⟨Below.drew (below_drewN HF.out k), NumAt.drew (NumAt.draw HN.out k)⟩
              have HQ2 : Hid (∀ k, Hid (Below (w.heap.size + 1) (w.alloc (.cells #[.int .i64 24, .int .i64 (-126), .int .i64 127, .int .i64 8] 66)) (w6.drewN k) ∧ NumAt (w6.drewN k) q ((S : Nat) : Int) bd3)) := fun k => ⟨below_drewN HF.out k, NumAt.draw HN.out k⟩
              have HQ3 : Hid (∀ k j, Hid (Below (w.heap.size + 1) (w.alloc (.cells #[.int .i64 24, .int .i64 (-126), .int .i64 127, .int .i64 8] 66)) (((w6.drewN k).drewN j).drew) ∧ NumAt (((w6.drewN k).drewN j).drew) q ((S : Nat) : Int) bd3)) := fun k j => ⟨Below.drew (below_drewN (below_drewN HF.out k) j), NumAt.drew (NumAt.draw (NumAt.draw HN.out k) j)⟩
              have HNU : Hid (∀ w', Hid (Below (w.heap.size + 1) (w.alloc (.cells #[.int .i64 24, .int .i64 (-126), .int .i64 127, .int .i64 8] 66)) w' ∧ NumAt w' q ((S : Nat) : Int) bd3) → Calls Tryz.prog 69 #[.pointer (some ⟨q, 0, none⟩)] w' fun r w1 => r = .returned (.int .u64 S) ∧ w1 = w') := fun w' h => NUint64 q S bd3 w' h.out.2 HS64.out
              have HPU : Hid (∀ w', Hid (Below (w.heap.size + 1) (w.alloc (.cells #[.int .i64 24, .int .i64 (-126), .int .i64 127, .int .i64 8] 66)) w' ∧ NumAt w' q ((S : Nat) : Int) bd3) → Calls Tryz.prog 103 #[.agg #[.int .i64 24, .int .i64 (-126), .int .i64 127, .int .i64 8], .bool neg, .int .i64 0, .int .u64 S] w' fun r w1 => r = .returned (.int .u64 y) ∧ Hid (Below (w.heap.size + 1) (w.alloc (.cells #[.int .i64 24, .int .i64 (-126), .int .i64 127, .int .i64 8] 66)) w1 ∧ NumAt w1 q ((S : Nat) : Int) bd3)) := fun w' h => by
                rw [← hy.out]
                refine (put32_any neg 0 S w' (by decide) HSL.out).mono ?_
                rintro r w1 ⟨rfl, T, rfl⟩
                exact ⟨rfl, fC h.out.1 (al_below _ _) (by have := h.out.1.size; simp at this; omega), h.out.2.al _⟩
              go_wp2_with fail
              go_region_held3 (fun w' => (w'.cell? ⟨w.heap.size, 0, none⟩ = some (.int .i64 24) ∧ w'.cell? ⟨w.heap.size, 1, none⟩ = some (.int .i64 (-126)) ∧ w'.cell? ⟨w.heap.size, 2, none⟩ = some (.int .i64 127) ∧ w'.cell? ⟨w.heap.size, 3, none⟩ = some (.int .i64 8)) ∧ Hid (Below (w.heap.size + 1) (w.alloc (.cells #[.int .i64 24, .int .i64 (-126), .int .i64 127, .int .i64 8] 66)) w' ∧ NumAt w' q ((S : Nat) : Int) bd3)) (exact HK.out _ (by first | assumption | exact HQ1.out _ | exact HQ2.out _ | exact HQ3.out _ _))
                (first
                  | (go_at_call 69; refine (HNU.out _ (by first | exact HQ2.out _ | exact And.right (by assumption))).mono ?_; rintro r w9 ⟨rfl, rfl⟩)
                  | (go_at_call 103; refine (HPU.out _ (by first | exact HQ2.out _ | exact And.right (by assumption))).mono ?_; rintro r w9 ⟨rfl, HE9⟩))
              all_goals go_wp2
              all_goals go_ret2
              all_goals exact ⟨ret_uf HEQ.out.1.symm HEQ.out.2.symm, bl_B HE9.out.1⟩
            have HSUB := hid hsub
            have hsubI : ¬ (bl : Int) < 24 := by omega
            clear hsub
            have hX : u - (-149) + 1 = (((u - (-149) + 1).toNat : Nat) : Int) := by omega
            obtain ⟨X, hXX⟩ : ∃ X, Hid ((u - (-149) + 1).toNat = X) := ⟨_, rfl⟩
            have hXc : (u - (-149) + 1).toNat = X := hXX.out
            rw [hXc] at hX
            have hX2 : u + 149 + 1 = (X : Int) := by omega
            have hX3 : u + 150 = (X : Int) := by omega
            have HXL : Hid (X < 256) := by have h1 := hXc; have h2 := HOV.out; have h3 := HUB.out; have h4 := HBLLE.out; show X < 256; omega
            obtain ⟨s2, hs2⟩ : ∃ s2 : Nat, Hid (S = s2) := ⟨_, rfl⟩
            have HS2 : Hid (s2 < 18446744073709551616) := by rw [← hs2.out]; have := HS64.out; show S < _; omega
            have hmask : bits .and .u64 (s2 : Int) 8388607 = ((s2 % 8388608 : Nat) : Int) := and_mask s2 23 HS2.out (by decide)
            obtain ⟨f, hff⟩ : ∃ f, Hid (s2 % 8388608 = f) := ⟨_, rfl⟩
            have HFW : Hid (f < 8388608) := by rw [← hff.out]; exact Nat.mod_lt _ (by decide)
            rw [hff.out] at hmask
            have hmk : IntKind.u64.wrap (IntKind.u64.wrap (2 ^ min (IntKind.u64.wrap (IntKind.i64.wrap 23)).toNat 64) - 1) = 8388607 := by decide +kernel
            have HEQ : Hid ((V : Int) = (signN32 neg (packN32 X f) : Int) ∧ FL = 3) := by
              obtain ⟨a1, a2⟩ := HVF.out HOV.out
              rw [HDN.out HCAR.out HSUB.out, hXc, hs2.out, hff.out] at a1
              exact ⟨by rw [a1], a2⟩
            obtain ⟨y, hy⟩ : ∃ y, Hid (signN32 neg (packN32 X f) = y) := ⟨_, rfl⟩
            rw [hy.out] at HEQ
            have HK : Hid (∀ w', Hid (Below (w.heap.size + 1) (w.alloc (.cells #[.int .i64 24, .int .i64 (-126), .int .i64 127, .int .i64 8] 66)) w' ∧ NumAt w' q ((S : Nat) : Int) bd3) → (w'.cell? ⟨w.heap.size, 0, none⟩ = some (.int .i64 24) ∧ w'.cell? ⟨w.heap.size, 1, none⟩ = some (.int .i64 (-126)) ∧ w'.cell? ⟨w.heap.size, 2, none⟩ = some (.int .i64 127) ∧ w'.cell? ⟨w.heap.size, 3, none⟩ = some (.int .i64 8)) ∧ Hid (Below (w.heap.size + 1) (w.alloc (.cells #[.int .i64 24, .int .i64 (-126), .int .i64 127, .int .i64 8] 66)) w' ∧ NumAt w' q ((S : Nat) : Int) bd3)) := fun w' h => ⟨fcells h.out.1, h⟩
            have HQ1 : Hid (∀ k, Hid (Below (w.heap.size + 1) (w.alloc (.cells #[.int .i64 24, .int .i64 (-126), .int .i64 127, .int .i64 8] 66)) (w6.drewN k).drew ∧ NumAt (w6.drewN k).drew q ((S : Nat) : Int) bd3)) := fun k => ⟨Below.drew (below_drewN HF.out k), NumAt.drew (NumAt.draw HN.out k)⟩
            have HQ2 : Hid (∀ k, Hid (Below (w.heap.size + 1) (w.alloc (.cells #[.int .i64 24, .int .i64 (-126), .int .i64 127, .int .i64 8] 66)) (w6.drewN k) ∧ NumAt (w6.drewN k) q ((S : Nat) : Int) bd3)) := fun k => ⟨below_drewN HF.out k, NumAt.draw HN.out k⟩
            have HQ3 : Hid (∀ k j, Hid (Below (w.heap.size + 1) (w.alloc (.cells #[.int .i64 24, .int .i64 (-126), .int .i64 127, .int .i64 8] 66)) (((w6.drewN k).drewN j).drew) ∧ NumAt (((w6.drewN k).drewN j).drew) q ((S : Nat) : Int) bd3)) := fun k j => ⟨Below.drew (below_drewN (below_drewN HF.out k) j), NumAt.drew (NumAt.draw (NumAt.draw HN.out k) j)⟩
            have HNU : Hid (∀ w', Hid (Below (w.heap.size + 1) (w.alloc (.cells #[.int .i64 24, .int .i64 (-126), .int .i64 127, .int .i64 8] 66)) w' ∧ NumAt w' q ((S : Nat) : Int) bd3) → Calls Tryz.prog 69 #[.pointer (some ⟨q, 0, none⟩)] w' fun r w1 => r = .returned (.int .u64 s2) ∧ w1 = w') := fun w' h => by
              rw [← hs2.out]; exact NUint64 q S bd3 w' h.out.2 (by have := HS64.out; omega)
            have HPU : Hid (∀ w', Hid (Below (w.heap.size + 1) (w.alloc (.cells #[.int .i64 24, .int .i64 (-126), .int .i64 127, .int .i64 8] 66)) w' ∧ NumAt w' q ((S : Nat) : Int) bd3) → Calls Tryz.prog 103 #[.agg #[.int .i64 24, .int .i64 (-126), .int .i64 127, .int .i64 8], .bool neg, .int .i64 X, .int .u64 f] w' fun r w1 => r = .returned (.int .u64 y) ∧ Hid (Below (w.heap.size + 1) (w.alloc (.cells #[.int .i64 24, .int .i64 (-126), .int .i64 127, .int .i64 8] 66)) w1 ∧ NumAt w1 q ((S : Nat) : Int) bd3)) := fun w' h => by
              rw [← hy.out]
              refine (put32_any neg X f w' HXL.out HFW.out).mono ?_
              rintro r w1 ⟨rfl, T, rfl⟩
              exact ⟨rfl, fC h.out.1 (al_below _ _) (by have := h.out.1.size; simp at this; omega), h.out.2.al _⟩
            go_wp2_with fail
            go_region_held3 (fun w' => (w'.cell? ⟨w.heap.size, 0, none⟩ = some (.int .i64 24) ∧ w'.cell? ⟨w.heap.size, 1, none⟩ = some (.int .i64 (-126)) ∧ w'.cell? ⟨w.heap.size, 2, none⟩ = some (.int .i64 127) ∧ w'.cell? ⟨w.heap.size, 3, none⟩ = some (.int .i64 8)) ∧ Hid (Below (w.heap.size + 1) (w.alloc (.cells #[.int .i64 24, .int .i64 (-126), .int .i64 127, .int .i64 8] 66)) w' ∧ NumAt w' q ((S : Nat) : Int) bd3)) (exact HK.out _ (by first | assumption | exact HQ1.out _ | exact HQ2.out _ | exact HQ3.out _ _))
              (first
                | (go_at_call 69; refine (HNU.out _ (by first | exact HQ2.out _ | exact And.right (by assumption))).mono ?_; rintro r w9 ⟨rfl, rfl⟩)
                | (go_at_call 103; refine (HPU.out _ (by first | exact HQ2.out _ | exact And.right (by assumption))).mono ?_; rintro r w9 ⟨rfl, HE9⟩))
            all_goals go_wp2
            all_goals go_ret2
            all_goals exact ⟨ret_uf HEQ.out.1.symm HEQ.out.2.symm, bl_B HE9.out.1⟩
      · have HVF : Hid (u + (bl : Int) - 1 ≤ 127 → V = signN32 neg (docMag 24 (-149) S u) ∧ FL = 1) := fun h => by
          obtain ⟨a1, a2⟩ := HVN.out h
          rw [HCR.out, if_neg hR0, if_neg hTl] at a2
          exact ⟨a1, a2⟩
        have hTl' : (-126) ≤ T := by omega
        clear hR0 hTl
        go_wp2_with fail
        go_quiet (first | (go_at_call 104; exact Calls.quiet_of (HBL.out _ HN.out _)))
        by_cases hcar : 24 < bl
        · have HCAR := hid hcar
          have hcarI : (24 : Int) < (bl : Int) := by omega
          clear hcar
          go_wp2_with fail
          refine (NRsh q q S 1 bd3 _ (HN.out.draw _).zok (HN.out.draw _) HBD.out (by decide)).mono ?_
          rintro r w8 ⟨rfl, h8, b8⟩
          have HN8 : Hid (NumAt w8 q ((S / 2 : Nat) : Int) bd3) := h8
          have HF8 : Hid (Below (w.heap.size + 1) (w.alloc (.cells #[.int .i64 24, .int .i64 (-126), .int .i64 127, .int .i64 8] 66)) w8) := (below_drewN HF.out _).trans (b8.below (by have := HF.out.size; simp [World.drewN] at this ⊢; omega) hqq)
          clear h8 b8 c0 c1 c2 c3
          obtain ⟨c0, c1, c2, c3⟩ := fcells HF8.out
          obtain ⟨h2a, h2b⟩ := HHALF.out HCAR.out
          obtain ⟨p', hp'⟩ : ∃ p' : Nat, Hid (24 = p') := ⟨_, rfl⟩
          have HBL8 := quiet_len q (S / 2) bd3 p' HBD.out (h2a.trans hp'.out)
          obtain ⟨u', hu'⟩ : ∃ u', Hid (u + 1 = u') := ⟨_, rfl⟩
          have hu'1 : u + 1 = u' := hu'.out
          have hu'2 : IntKind.i64.wrap (u + 1) = u' := by rw [IntWalk.i64_in _ (by omega)]; exact hu'1
          have hu'3 : IntKind.i64.wrap u' = u' := by rw [IntWalk.i64_in _ (by omega)]
          have hpb : p' ≤ 100 := by have := hp'.out; omega
          have HUB : Hid (u' + (p' : Int) = u + (bl : Int)) := by have := hp'.out; show u' + (p' : Int) = u + (bl : Int); omega
          have HLP : Hid (24 ≤ p') := by have := hp'.out; show 24 ≤ p'; omega
          clear h2a h2b
          go_wp2_with fail
          go_quiet (first | (go_at_call 104; first | exact Calls.quiet_of (HBL8.out _ HN8.out _) | exact quiet_of2 (HBL8.out _ HN8.out _)))
          by_cases hov : (127 : Int) < u' + (p' : Int) - 1
          · have HOV : Hid ((127 : Int) < u + (bl : Int) - 1) := by have h2 := HUB.out; show (127 : Int) < u + (bl : Int) - 1; omega
            go_wp2_with fail
            refine (over32_any neg mode _).mono ?_
            rintro r w9 ⟨rfl, b9⟩
            go_wp2
            go_ret2
            exact ⟨ret_uf (HVO.out HOV.out).1.symm (HVO.out HOV.out).2.symm, bl_then (by repeat (first | exact bl_B HF8.out | refine bl_drewN _ ?_)) b9⟩
          · have HOV : Hid (u + (bl : Int) - 1 ≤ 127) := by have h2 := HUB.out; show u + (bl : Int) - 1 ≤ 127; omega
            go_wp2_with fail
            go_quiet (first | (go_at_call 104; exact quiet_of2 (HBL8.out _ HN8.out _)))
            have hsubI : ¬ (p' : Int) < 24 := by have := hp'.out; omega
            have hX : u' - (-149) + 1 = (((u' - (-149) + 1).toNat : Nat) : Int) := by omega
            obtain ⟨X, hXX⟩ : ∃ X, Hid ((u' - (-149) + 1).toNat = X) := ⟨_, rfl⟩
            have hXc : (u' - (-149) + 1).toNat = X := hXX.out
            rw [hXc] at hX
            have hX2 : u' + 149 + 1 = (X : Int) := by omega
            have hX3 : u' + 150 = (X : Int) := by omega
            have HXL : Hid (X < 256) := by have h1 := hXc; have h2 := HOV.out; have h3 := HUB.out; have h4 := HLP.out; show X < 256; omega
            obtain ⟨s2, hs2⟩ : ∃ s2 : Nat, Hid ((S / 2) = s2) := ⟨_, rfl⟩
            have HS2 : Hid (s2 < 18446744073709551616) := by rw [← hs2.out]; have := HS64.out; show (S / 2) < _; omega
            have hmask : bits .and .u64 (s2 : Int) 8388607 = ((s2 % 8388608 : Nat) : Int) := and_mask s2 23 HS2.out (by decide)
            obtain ⟨f, hff⟩ : ∃ f, Hid (s2 % 8388608 = f) := ⟨_, rfl⟩
            have HFW : Hid (f < 8388608) := by rw [← hff.out]; exact Nat.mod_lt _ (by decide)
            rw [hff.out] at hmask
            have hmk : IntKind.u64.wrap (IntKind.u64.wrap (2 ^ min (IntKind.u64.wrap (IntKind.i64.wrap 23)).toNat 64) - 1) = 8388607 := by decide +kernel
            have HEQ : Hid ((V : Int) = (signN32 neg (packN32 X f) : Int) ∧ FL = 1) := by
              obtain ⟨a1, a2⟩ := HVF.out HOV.out
              rw [HDC.out HCAR.out, hu'.out, hXc, hs2.out, hff.out] at a1
              exact ⟨by rw [a1], a2⟩
            obtain ⟨y, hy⟩ : ∃ y, Hid (signN32 neg (packN32 X f) = y) := ⟨_, rfl⟩
            rw [hy.out] at HEQ
            have HK : Hid (∀ w', Hid (Below (w.heap.size + 1) (w.alloc (.cells #[.int .i64 24, .int .i64 (-126), .int .i64 127, .int .i64 8] 66)) w' ∧ NumAt w' q (((S / 2) : Nat) : Int) bd3) → (w'.cell? ⟨w.heap.size, 0, none⟩ = some (.int .i64 24) ∧ w'.cell? ⟨w.heap.size, 1, none⟩ = some (.int .i64 (-126)) ∧ w'.cell? ⟨w.heap.size, 2, none⟩ = some (.int .i64 127) ∧ w'.cell? ⟨w.heap.size, 3, none⟩ = some (.int .i64 8)) ∧ Hid (Below (w.heap.size + 1) (w.alloc (.cells #[.int .i64 24, .int .i64 (-126), .int .i64 127, .int .i64 8] 66)) w' ∧ NumAt w' q (((S / 2) : Nat) : Int) bd3)) := fun w' h => ⟨fcells h.out.1, h⟩
            have HQ1 : Hid (∀ k, Hid (Below (w.heap.size + 1) (w.alloc (.cells #[.int .i64 24, .int .i64 (-126), .int .i64 127, .int .i64 8] 66)) (w8.drewN k).drew ∧ NumAt (w8.drewN k).drew q (((S / 2) : Nat) : Int) bd3)) := fun k => ⟨Below.drew (below_drewN HF8.out k), NumAt.drew (NumAt.draw HN8.out k)⟩
            have HQ2 : Hid (∀ k, Hid (Below (w.heap.size + 1) (w.alloc (.cells #[.int .i64 24, .int .i64 (-126), .int .i64 127, .int .i64 8] 66)) (w8.drewN k) ∧ NumAt (w8.drewN k) q (((S / 2) : Nat) : Int) bd3)) := fun k => ⟨below_drewN HF8.out k, NumAt.draw HN8.out k⟩
            have HQ3 : Hid (∀ k j, Hid (Below (w.heap.size + 1) (w.alloc (.cells #[.int .i64 24, .int .i64 (-126), .int .i64 127, .int .i64 8] 66)) (((w8.drewN k).drewN j).drew) ∧ NumAt (((w8.drewN k).drewN j).drew) q (((S / 2) : Nat) : Int) bd3)) := fun k j => ⟨Below.drew (below_drewN (below_drewN HF8.out k) j), NumAt.drew (NumAt.draw (NumAt.draw HN8.out k) j)⟩
            have HNU : Hid (∀ w', Hid (Below (w.heap.size + 1) (w.alloc (.cells #[.int .i64 24, .int .i64 (-126), .int .i64 127, .int .i64 8] 66)) w' ∧ NumAt w' q (((S / 2) : Nat) : Int) bd3) → Calls Tryz.prog 69 #[.pointer (some ⟨q, 0, none⟩)] w' fun r w1 => r = .returned (.int .u64 s2) ∧ w1 = w') := fun w' h => by
              rw [← hs2.out]; exact NUint64 q (S / 2) bd3 w' h.out.2 (by have := HS64.out; omega)
            have HPU : Hid (∀ w', Hid (Below (w.heap.size + 1) (w.alloc (.cells #[.int .i64 24, .int .i64 (-126), .int .i64 127, .int .i64 8] 66)) w' ∧ NumAt w' q (((S / 2) : Nat) : Int) bd3) → Calls Tryz.prog 103 #[.agg #[.int .i64 24, .int .i64 (-126), .int .i64 127, .int .i64 8], .bool neg, .int .i64 X, .int .u64 f] w' fun r w1 => r = .returned (.int .u64 y) ∧ Hid (Below (w.heap.size + 1) (w.alloc (.cells #[.int .i64 24, .int .i64 (-126), .int .i64 127, .int .i64 8] 66)) w1 ∧ NumAt w1 q (((S / 2) : Nat) : Int) bd3)) := fun w' h => by
              rw [← hy.out]
              refine (put32_any neg X f w' HXL.out HFW.out).mono ?_
              rintro r w1 ⟨rfl, T, rfl⟩
              exact ⟨rfl, fC h.out.1 (al_below _ _) (by have := h.out.1.size; simp at this; omega), h.out.2.al _⟩
            go_wp2_with fail
            go_region_held3 (fun w' => (w'.cell? ⟨w.heap.size, 0, none⟩ = some (.int .i64 24) ∧ w'.cell? ⟨w.heap.size, 1, none⟩ = some (.int .i64 (-126)) ∧ w'.cell? ⟨w.heap.size, 2, none⟩ = some (.int .i64 127) ∧ w'.cell? ⟨w.heap.size, 3, none⟩ = some (.int .i64 8)) ∧ Hid (Below (w.heap.size + 1) (w.alloc (.cells #[.int .i64 24, .int .i64 (-126), .int .i64 127, .int .i64 8] 66)) w' ∧ NumAt w' q (((S / 2) : Nat) : Int) bd3)) (exact HK.out _ (by first | assumption | exact HQ1.out _ | exact HQ2.out _ | exact HQ3.out _ _))
              (first
                | (go_at_call 69; refine (HNU.out _ (by first | exact HQ2.out _ | exact And.right (by assumption))).mono ?_; rintro r w9 ⟨rfl, rfl⟩)
                | (go_at_call 103; refine (HPU.out _ (by first | exact HQ2.out _ | exact And.right (by assumption))).mono ?_; rintro r w9 ⟨rfl, HE9⟩))
            all_goals go_wp2
            all_goals go_ret2
            all_goals exact ⟨ret_uf HEQ.out.1.symm HEQ.out.2.symm, bl_B HE9.out.1⟩
        · have HCAR := hid hcar
          have hcarI : ¬ (24 : Int) < (bl : Int) := by omega
          have HUB : Hid (u + (bl : Int) = u + (bl : Int)) := rfl
          have hpb : bl ≤ 100 := by have := HBLLE.out; omega
          clear hcar
          go_wp2_with fail
          go_quiet (first | (go_at_call 104; first | exact Calls.quiet_of (HBL.out _ HN.out _) | exact quiet_of2 (HBL.out _ HN.out _)))
          by_cases hov : (127 : Int) < u + (bl : Int) - 1
          · have HOV : Hid ((127 : Int) < u + (bl : Int) - 1) := by have h2 := HUB.out; show (127 : Int) < u + (bl : Int) - 1; omega
            go_wp2_with fail
            refine (over32_any neg mode _).mono ?_
            rintro r w9 ⟨rfl, b9⟩
            go_wp2
            go_ret2
            exact ⟨ret_uf (HVO.out HOV.out).1.symm (HVO.out HOV.out).2.symm, bl_then (by repeat (first | exact bl_B HF.out | refine bl_drewN _ ?_)) b9⟩
          · have HOV : Hid (u + (bl : Int) - 1 ≤ 127) := by have h2 := HUB.out; show u + (bl : Int) - 1 ≤ 127; omega
            go_wp2_with fail
            go_quiet (first | (go_at_call 104; exact quiet_of2 (HBL.out _ HN.out _)))
            by_cases hsub : bl < 24
            · have hsubI : (bl : Int) < 24 := by omega
              have HSL : Hid (S < 8388608) := HSub.out hsub
              have HEQ : Hid ((V : Int) = (signN32 neg (packN32 0 S) : Int) ∧ FL = 1) := by
                obtain ⟨a1, a2⟩ := HVF.out HOV.out
                rw [HDS.out HCAR.out hsub] at a1
                exact ⟨by rw [a1], a2⟩
              obtain ⟨y, hy⟩ : ∃ y, Hid (signN32 neg (packN32 0 S) = y) := ⟨_, rfl⟩
              rw [hy.out] at HEQ
              clear hsub
              have HK : Hid (∀ w', Hid (Below (w.heap.size + 1) (w.alloc (.cells #[.int .i64 24, .int .i64 (-126), .int .i64 127, .int .i64 8] 66)) w' ∧ NumAt w' q ((S : Nat) : Int) bd3) → (w'.cell? ⟨w.heap.size, 0, none⟩ = some (.int .i64 24) ∧ w'.cell? ⟨w.heap.size, 1, none⟩ = some (.int .i64 (-126)) ∧ w'.cell? ⟨w.heap.size, 2, none⟩ = some (.int .i64 127) ∧ w'.cell? ⟨w.heap.size, 3, none⟩ = some (.int .i64 8)) ∧ Hid (Below (w.heap.size + 1) (w.alloc (.cells #[.int .i64 24, .int .i64 (-126), .int .i64 127, .int .i64 8] 66)) w' ∧ NumAt w' q ((S : Nat) : Int) bd3)) := fun w' h => ⟨fcells h.out.1, h⟩
              have HQ1 : Hid (∀ k, Hid (Below (w.heap.size + 1) (w.alloc (.cells #[.int .i64 24, .int .i64 (-126), .int .i64 127, .int .i64 8] 66)) (w6.drewN k).drew ∧ NumAt (w6.drewN k).drew q ((S : Nat) : Int) bd3)) := fun k => ⟨Below.drew (below_drewN HF.out k), NumAt.drew (NumAt.draw HN.out k)⟩
              have HQ2 : Hid (∀ k, Hid (Below (w.heap.size + 1) (w.alloc (.cells #[.int .i64 24, .int .i64 (-126), .int .i64 127, .int .i64 8] 66)) (w6.drewN k) ∧ NumAt (w6.drewN k) q ((S : Nat) : Int) bd3)) := fun k => ⟨below_drewN HF.out k, NumAt.draw HN.out k⟩
              have HQ3 : Hid (∀ k j, Hid (Below (w.heap.size + 1) (w.alloc (.cells #[.int .i64 24, .int .i64 (-126), .int .i64 127, .int .i64 8] 66)) (((w6.drewN k).drewN j).drew) ∧ NumAt (((w6.drewN k).drewN j).drew) q ((S : Nat) : Int) bd3)) := fun k j => ⟨Below.drew (below_drewN (below_drewN HF.out k) j), NumAt.drew (NumAt.draw (NumAt.draw HN.out k) j)⟩
              have HNU : Hid (∀ w', Hid (Below (w.heap.size + 1) (w.alloc (.cells #[.int .i64 24, .int .i64 (-126), .int .i64 127, .int .i64 8] 66)) w' ∧ NumAt w' q ((S : Nat) : Int) bd3) → Calls Tryz.prog 69 #[.pointer (some ⟨q, 0, none⟩)] w' fun r w1 => r = .returned (.int .u64 S) ∧ w1 = w') := fun w' h => NUint64 q S bd3 w' h.out.2 HS64.out
              have HPU : Hid (∀ w', Hid (Below (w.heap.size + 1) (w.alloc (.cells #[.int .i64 24, .int .i64 (-126), .int .i64 127, .int .i64 8] 66)) w' ∧ NumAt w' q ((S : Nat) : Int) bd3) → Calls Tryz.prog 103 #[.agg #[.int .i64 24, .int .i64 (-126), .int .i64 127, .int .i64 8], .bool neg, .int .i64 0, .int .u64 S] w' fun r w1 => r = .returned (.int .u64 y) ∧ Hid (Below (w.heap.size + 1) (w.alloc (.cells #[.int .i64 24, .int .i64 (-126), .int .i64 127, .int .i64 8] 66)) w1 ∧ NumAt w1 q ((S : Nat) : Int) bd3)) := fun w' h => by
                rw [← hy.out]
                refine (put32_any neg 0 S w' (by decide) HSL.out).mono ?_
                rintro r w1 ⟨rfl, T, rfl⟩
                exact ⟨rfl, fC h.out.1 (al_below _ _) (by have := h.out.1.size; simp at this; omega), h.out.2.al _⟩
              go_wp2_with fail
              go_region_held3 (fun w' => (w'.cell? ⟨w.heap.size, 0, none⟩ = some (.int .i64 24) ∧ w'.cell? ⟨w.heap.size, 1, none⟩ = some (.int .i64 (-126)) ∧ w'.cell? ⟨w.heap.size, 2, none⟩ = some (.int .i64 127) ∧ w'.cell? ⟨w.heap.size, 3, none⟩ = some (.int .i64 8)) ∧ Hid (Below (w.heap.size + 1) (w.alloc (.cells #[.int .i64 24, .int .i64 (-126), .int .i64 127, .int .i64 8] 66)) w' ∧ NumAt w' q ((S : Nat) : Int) bd3)) (exact HK.out _ (by first | assumption | exact HQ1.out _ | exact HQ2.out _ | exact HQ3.out _ _))
                (first
                  | (go_at_call 69; refine (HNU.out _ (by first | exact HQ2.out _ | exact And.right (by assumption))).mono ?_; rintro r w9 ⟨rfl, rfl⟩)
                  | (go_at_call 103; refine (HPU.out _ (by first | exact HQ2.out _ | exact And.right (by assumption))).mono ?_; rintro r w9 ⟨rfl, HE9⟩))
              all_goals go_wp2
              all_goals go_ret2
              all_goals exact ⟨ret_uf HEQ.out.1.symm HEQ.out.2.symm, bl_B HE9.out.1⟩
            have HSUB := hid hsub
            have hsubI : ¬ (bl : Int) < 24 := by omega
            clear hsub
            have hX : u - (-149) + 1 = (((u - (-149) + 1).toNat : Nat) : Int) := by omega
            obtain ⟨X, hXX⟩ : ∃ X, Hid ((u - (-149) + 1).toNat = X) := ⟨_, rfl⟩
            have hXc : (u - (-149) + 1).toNat = X := hXX.out
            rw [hXc] at hX
            have hX2 : u + 149 + 1 = (X : Int) := by omega
            have hX3 : u + 150 = (X : Int) := by omega
            have HXL : Hid (X < 256) := by have h1 := hXc; have h2 := HOV.out; have h3 := HUB.out; have h4 := HBLLE.out; show X < 256; omega
            obtain ⟨s2, hs2⟩ : ∃ s2 : Nat, Hid (S = s2) := ⟨_, rfl⟩
            have HS2 : Hid (s2 < 18446744073709551616) := by rw [← hs2.out]; have := HS64.out; show S < _; omega
            have hmask : bits .and .u64 (s2 : Int) 8388607 = ((s2 % 8388608 : Nat) : Int) := and_mask s2 23 HS2.out (by decide)
            obtain ⟨f, hff⟩ : ∃ f, Hid (s2 % 8388608 = f) := ⟨_, rfl⟩
            have HFW : Hid (f < 8388608) := by rw [← hff.out]; exact Nat.mod_lt _ (by decide)
            rw [hff.out] at hmask
            have hmk : IntKind.u64.wrap (IntKind.u64.wrap (2 ^ min (IntKind.u64.wrap (IntKind.i64.wrap 23)).toNat 64) - 1) = 8388607 := by decide +kernel
            have HEQ : Hid ((V : Int) = (signN32 neg (packN32 X f) : Int) ∧ FL = 1) := by
              obtain ⟨a1, a2⟩ := HVF.out HOV.out
              rw [HDN.out HCAR.out HSUB.out, hXc, hs2.out, hff.out] at a1
              exact ⟨by rw [a1], a2⟩
            obtain ⟨y, hy⟩ : ∃ y, Hid (signN32 neg (packN32 X f) = y) := ⟨_, rfl⟩
            rw [hy.out] at HEQ
            have HK : Hid (∀ w', Hid (Below (w.heap.size + 1) (w.alloc (.cells #[.int .i64 24, .int .i64 (-126), .int .i64 127, .int .i64 8] 66)) w' ∧ NumAt w' q ((S : Nat) : Int) bd3) → (w'.cell? ⟨w.heap.size, 0, none⟩ = some (.int .i64 24) ∧ w'.cell? ⟨w.heap.size, 1, none⟩ = some (.int .i64 (-126)) ∧ w'.cell? ⟨w.heap.size, 2, none⟩ = some (.int .i64 127) ∧ w'.cell? ⟨w.heap.size, 3, none⟩ = some (.int .i64 8)) ∧ Hid (Below (w.heap.size + 1) (w.alloc (.cells #[.int .i64 24, .int .i64 (-126), .int .i64 127, .int .i64 8] 66)) w' ∧ NumAt w' q ((S : Nat) : Int) bd3)) := fun w' h => ⟨fcells h.out.1, h⟩
            have HQ1 : Hid (∀ k, Hid (Below (w.heap.size + 1) (w.alloc (.cells #[.int .i64 24, .int .i64 (-126), .int .i64 127, .int .i64 8] 66)) (w6.drewN k).drew ∧ NumAt (w6.drewN k).drew q ((S : Nat) : Int) bd3)) := fun k => ⟨Below.drew (below_drewN HF.out k), NumAt.drew (NumAt.draw HN.out k)⟩
            have HQ2 : Hid (∀ k, Hid (Below (w.heap.size + 1) (w.alloc (.cells #[.int .i64 24, .int .i64 (-126), .int .i64 127, .int .i64 8] 66)) (w6.drewN k) ∧ NumAt (w6.drewN k) q ((S : Nat) : Int) bd3)) := fun k => ⟨below_drewN HF.out k, NumAt.draw HN.out k⟩
            have HQ3 : Hid (∀ k j, Hid (Below (w.heap.size + 1) (w.alloc (.cells #[.int .i64 24, .int .i64 (-126), .int .i64 127, .int .i64 8] 66)) (((w6.drewN k).drewN j).drew) ∧ NumAt (((w6.drewN k).drewN j).drew) q ((S : Nat) : Int) bd3)) := fun k j => ⟨Below.drew (below_drewN (below_drewN HF.out k) j), NumAt.drew (NumAt.draw (NumAt.draw HN.out k) j)⟩
            have HNU : Hid (∀ w', Hid (Below (w.heap.size + 1) (w.alloc (.cells #[.int .i64 24, .int .i64 (-126), .int .i64 127, .int .i64 8] 66)) w' ∧ NumAt w' q ((S : Nat) : Int) bd3) → Calls Tryz.prog 69 #[.pointer (some ⟨q, 0, none⟩)] w' fun r w1 => r = .returned (.int .u64 s2) ∧ w1 = w') := fun w' h => by
              rw [← hs2.out]; exact NUint64 q S bd3 w' h.out.2 (by have := HS64.out; omega)
            have HPU : Hid (∀ w', Hid (Below (w.heap.size + 1) (w.alloc (.cells #[.int .i64 24, .int .i64 (-126), .int .i64 127, .int .i64 8] 66)) w' ∧ NumAt w' q ((S : Nat) : Int) bd3) → Calls Tryz.prog 103 #[.agg #[.int .i64 24, .int .i64 (-126), .int .i64 127, .int .i64 8], .bool neg, .int .i64 X, .int .u64 f] w' fun r w1 => r = .returned (.int .u64 y) ∧ Hid (Below (w.heap.size + 1) (w.alloc (.cells #[.int .i64 24, .int .i64 (-126), .int .i64 127, .int .i64 8] 66)) w1 ∧ NumAt w1 q ((S : Nat) : Int) bd3)) := fun w' h => by
              rw [← hy.out]
              refine (put32_any neg X f w' HXL.out HFW.out).mono ?_
              rintro r w1 ⟨rfl, T, rfl⟩
              exact ⟨rfl, fC h.out.1 (al_below _ _) (by have := h.out.1.size; simp at this; omega), h.out.2.al _⟩
            go_wp2_with fail
            go_region_held3 (fun w' => (w'.cell? ⟨w.heap.size, 0, none⟩ = some (.int .i64 24) ∧ w'.cell? ⟨w.heap.size, 1, none⟩ = some (.int .i64 (-126)) ∧ w'.cell? ⟨w.heap.size, 2, none⟩ = some (.int .i64 127) ∧ w'.cell? ⟨w.heap.size, 3, none⟩ = some (.int .i64 8)) ∧ Hid (Below (w.heap.size + 1) (w.alloc (.cells #[.int .i64 24, .int .i64 (-126), .int .i64 127, .int .i64 8] 66)) w' ∧ NumAt w' q ((S : Nat) : Int) bd3)) (exact HK.out _ (by first | assumption | exact HQ1.out _ | exact HQ2.out _ | exact HQ3.out _ _))
              (first
                | (go_at_call 69; refine (HNU.out _ (by first | exact HQ2.out _ | exact And.right (by assumption))).mono ?_; rintro r w9 ⟨rfl, rfl⟩)
                | (go_at_call 103; refine (HPU.out _ (by first | exact HQ2.out _ | exact And.right (by assumption))).mono ?_; rintro r w9 ⟨rfl, HE9⟩))
            all_goals go_wp2
            all_goals go_ret2
            all_goals exact ⟨ret_uf HEQ.out.1.symm HEQ.out.2.symm, bl_B HE9.out.1⟩
end Go.Proofs.YtpgcelbgmpfliaaGreatDoor
