
/- Sees: model's, and the document's. The law ModelSees. -/
import Derived.Test.YtmcanbkfijiicaaP48
namespace Go.Proofs.Ytmcanbkfijiicaa
open Go.RowKit Go.IntWalk

/-- What Sees tells. -/
def seT (id r c : Int) (n : Nat) (xs : List Nat) (m : Nat) (ys : List Nat) (g : Nat) (q : Nat) (us : List Nat) : Int := if snE id r c n xs m ys g (q : Int) ≠ 0 then snE id r c n xs m ys g (q : Int) else vecT r c n xs q us
theorem se_facts {id r c : Int} {n : Nat} {xs : List Nat} {m : Nat} {ys : List Nat} {g q : Nat} (us : List Nat) (h : snE id r c n xs m ys g (q : Int) = 0) : vecE r c n xs q us = (if finM us = false then 4 else 0) ∧ seT id r c n xs m ys g q us = vecT r c n xs q us := by
  refine ⟨?_, by unfold seT; rw [if_neg (fun k => k h)]⟩
  unfold snE at h
  by_cases h1 : id < 0 ∨ 64 ≤ id
  · rw [if_pos h1] at h; cases h
  rw [if_neg h1] at h
  by_cases h2 : chkM r c n xs = 0
  · rw [if_neg (fun k => k h2)] at h
    by_cases h3 : r < 1 ∨ 6 < r
    · rw [if_pos h3] at h; cases h
    rw [if_neg h3] at h
    by_cases h4 : c ≠ (q : Int) ∨ (m : Int) ≠ r
    · rw [if_pos h4] at h; cases h
    have hc : c = (q : Int) := by omega
    obtain ⟨R, C, e1, e2, l1, l2, _, _⟩ := chk_some h2
    have hq : ¬ 12 < q := by omega
    unfold vecE
    rw [h2]
    have e3 : shpE c q = 0 := by unfold shpE; rw [if_pos hc]
    rw [e3]
    unfold lstE
    rw [if_neg hq]
    unfold first2
    by_cases hf : finM us = false
    · rw [if_pos hf]; decide
    · rw [if_neg hf]; decide
  · rw [if_pos h2] at h; exact absurd h h2
theorem vt_four {r c : Int} {n : Nat} {xs : List Nat} {q : Nat} {us : List Nat} (h : vecE r c n xs q us = 4) : vecT r c n xs q us = 4 := by
  unfold vecT
  rw [h, if_neg (by decide)]
theorem vt_fin {r c : Int} {n : Nat} {xs : List Nat} {q : Nat} {us : List Nat} (h : vecE r c n xs q us = 0) : vecT r c n xs q us = if finF r.toNat (vecV xs us c.toNat) = true then 0 else 5 := by
  unfold vecT
  rw [if_pos h]
theorem fn_flR {W : World} {sa : Option Addr} {n cap : Nat} {f : Nat → Nat} (h : FnM W sa n cap f) : FlM W sa n cap ((List.range n).map f) := h.fl
set_option maxRecDepth 4000 in
set_option maxHeartbeats 4000000 in
theorem Sees_any (id r c : Int) (sa : Option Addr) (n ka : Nat) (sr : Option Addr) (m kr g : Nat) (xs ys : List Nat) (su : Option Addr) (q ku : Nat) (us : List Nat) (w : World) (hx : FlM w sa n ka xs) (hy : FlM w sr m kr ys) (hz : FlM w su q ku us) (hn : n ≤ 17592186043904) (hm : m ≤ 17592186043904) (hq : q ≤ 17592186043904) (hg : g < 18446744073709551616) : Calls Try.prog 9 #[SnV id r c sa n ka sr m kr g, .slice su q ku] w fun e w' => (∃ s k l, e = .returned (.tuple #[.slice s k l, .int .i64 (seT id r c n xs m ys g q us)]) ∧ LsC (seT id r c n xs m ys g q us) r.toNat (vecV xs us c.toNat) w' s k l) ∧ Below w.heap.size w w' := by
  have HB0 : Hid (Below w.heap.size w (w.alloc (SnBox id r c sa n ka sr m kr g)) ∧ (w.alloc (SnBox id r c sa n ka sr m kr g)).heap[w.heap.size]? = some (SnBox id r c sa n ka sr m kr g)) := ⟨(Below.refl _ _).alloc (Nat.le_refl _) _, nblkM _ _⟩
  have HCK := hid (fun W (hW : Below w.heap.size w W) => CheckSn_any id r c sa n ka sr m kr g xs ys (q : Int) W (hx.below hW) (hy.below hW) hn hm hg)
  have HMV := hid (fun W (hW : Below w.heap.size w W) => MulVec_tot r c sa n ka xs su q ku us W (hx.below hW) (hz.below hW) hn hq)
  have HSE := hid (@se_facts id r c n xs m ys g q us)
  have HS0 : Hid (snE id r c n xs m ys g (q : Int) ≠ 0 → seT id r c n xs m ys g q us = snE id r c n xs m ys g (q : Int)) := fun h => by unfold seT; rw [if_pos h]
  obtain ⟨E, hE⟩ : ∃ t, snE id r c n xs m ys g (q : Int) = t := ⟨_, rfl⟩
  rw [hE] at HCK HSE HS0
  obtain ⟨V, hV⟩ : ∃ V, Hid (w.alloc (SnBox id r c sa n ka sr m kr g) = V) := ⟨_, rfl⟩
  rw [hV.out] at HB0
  have hV' := hV.out
  unfold SnBox at hV'
  have sn := sncells_of HB0.out.2
  unfold SnC at sn
  obtain ⟨s0, s1, s2, s3, s4, s5, s6, s7, s8⟩ := sn
  have HCK2 := hid (HCK.out _ HB0.out.1)
  unfold SnV at HCK2 ⊢
  clear hE
  clear hx hy hz hn hm hq hg
  by_cases hE0 : E = 0
  · subst hE0
    obtain ⟨_, e2⟩ := HSE.out rfl
    rw [e2]
    obtain ⟨Tt, hT⟩ : ∃ t, vecT r c n xs q us = t := ⟨_, rfl⟩
    rw [hT] at HMV ⊢
    clear e2 hT
    go_enter Try.func9, Try.ntmps9
    go_wp2_with fail
    refine HCK2.out.mono ?_
    rintro e w1 ⟨rfl, hb⟩
    have HB1 : Hid (Below w.heap.size w w1 ∧ w1.heap[w.heap.size]? = some (SnBox id r c sa n ka sr m kr g)) := ⟨HB0.out.1.trans (hb.mono HB0.out.1.size), blkM HB0.out.2 hb⟩
    have sn := sncells_of HB1.out.2
    unfold SnC at sn
    obtain ⟨s0, s1, s2, s3, s4, s5, s6, s7, s8⟩ := sn
    clear hb
    go_wp2_with fail
    refine (HMV.out _ HB1.out.1).mono ?_
    rintro e w2 ⟨⟨s, k, l, rfl, hl⟩, hb⟩
    have HB2 := hid (HB1.out.1.trans (hb.mono HB1.out.1.size))
    have HL := hid hl
    clear hl hb
    go_wp2_with fail
    exact bodyPost_ret (v := .tuple #[.slice s k l, .int .i64 Tt]) (by simp [results, Try.results9, go_sem]) rfl ⟨⟨s, k, l, rfl, HL.out⟩, HB2.out⟩
  · rw [HS0.out hE0]
    have hne : (E != 0) = true := by simpa using hE0
    have HE0 := hid hE0
    clear hE0
    go_enter Try.func9, Try.ntmps9
    go_wp2_with fail
    refine HCK2.out.mono ?_
    rintro e w1 ⟨rfl, hb⟩
    have HB1 : Hid (Below w.heap.size w w1 ∧ w1.heap[w.heap.size]? = some (SnBox id r c sa n ka sr m kr g)) := ⟨HB0.out.1.trans (hb.mono HB0.out.1.size), blkM HB0.out.2 hb⟩
    have sn := sncells_of HB1.out.2
    unfold SnC at sn
    obtain ⟨s0, s1, s2, s3, s4, s5, s6, s7, s8⟩ := sn
    clear hb
    go_wp2_with fail
    exact bodyPost_ret (v := .tuple #[.slice none 0 0, .int .i64 E]) (by simp [results, Try.results9, go_sem]) rfl ⟨⟨none, 0, 0, rfl, Or.inr ⟨HE0.out, rfl, rfl, rfl⟩⟩, HB1.out.1⟩
set_option maxRecDepth 4000 in
set_option maxHeartbeats 4000000 in
theorem rSees_any (id r c : Int) (sa : Option Addr) (n ka : Nat) (sr : Option Addr) (m kr g : Nat) (xs ys : List Nat) (su : Option Addr) (q ku : Nat) (us : List Nat) (w : World) (hx : FlM w sa n ka xs) (hy : FlM w sr m kr ys) (hz : FlM w su q ku us) (hn : n ≤ 17592186043904) (hm : m ≤ 17592186043904) (hq : q ≤ 17592186043904) (hg : g < 18446744073709551616) : Calls Try.prog 11 #[SnV id r c sa n ka sr m kr g, .slice su q ku] w fun e w' => (∃ s k l, e = .returned (.tuple #[.slice s k l, .int .i64 (seT id r c n xs m ys g q us)]) ∧ LsC (seT id r c n xs m ys g q us) r.toNat (vecV xs us c.toNat) w' s k l) ∧ Below w.heap.size w w' := by
  have HB0 : Hid (Below w.heap.size w (w.alloc (SnBox id r c sa n ka sr m kr g)) ∧ (w.alloc (SnBox id r c sa n ka sr m kr g)).heap[w.heap.size]? = some (SnBox id r c sa n ka sr m kr g)) := ⟨(Below.refl _ _).alloc (Nat.le_refl _) _, nblkM _ _⟩
  have HCK := hid (fun W (hW : Below w.heap.size w W) => rCheckSn_any id r c sa n ka sr m kr g xs ys (q : Int) W (hx.below hW) (hy.below hW) hn hm hg)
  have HMV := hid (fun W (hW : Below w.heap.size w W) h => rMulVec_tot r c sa n ka xs su q ku us W (hx.below hW) (hz.below hW) h)
  have HAF := hid (fun W (hW : Below w.heap.size w W) => rall_any su q ku us W (hz.below hW) hq)
  have HAO := hid (fun W s k l o (h : FnM W s k l o) (hk : k ≤ 12) => rall_any s k l ((List.range k).map o) W (fn_flR h) (by omega))
  have HSE := hid (@se_facts id r c n xs m ys g q us)
  have HS0 : Hid (snE id r c n xs m ys g (q : Int) ≠ 0 → seT id r c n xs m ys g q us = snE id r c n xs m ys g (q : Int)) := fun h => by unfold seT; rw [if_pos h]
  obtain ⟨E, hE⟩ : ∃ t, snE id r c n xs m ys g (q : Int) = t := ⟨_, rfl⟩
  rw [hE] at HCK HSE HS0
  obtain ⟨V, hV⟩ : ∃ V, Hid (w.alloc (SnBox id r c sa n ka sr m kr g) = V) := ⟨_, rfl⟩
  rw [hV.out] at HB0
  have hV' := hV.out
  unfold SnBox at hV'
  have sn := sncells_of HB0.out.2
  unfold SnC at sn
  obtain ⟨s0, s1, s2, s3, s4, s5, s6, s7, s8⟩ := sn
  have HCK2 := hid (HCK.out _ HB0.out.1)
  unfold SnV at HCK2 ⊢
  clear hE
  clear hx hy hz hn hm hq hg
  by_cases hE0 : E = 0
  · subst hE0
    obtain ⟨e1, e2⟩ := HSE.out rfl
    rw [e2]
    obtain ⟨B, hB⟩ : ∃ t, finM us = t := ⟨_, rfl⟩
    rw [hB] at HAF e1
    cases B with
    | false =>
      rw [vt_four e1]
      clear e1 e2 hB
      go_enter Try.func11, Try.ntmps11
      go_wp2_with fail
      refine HCK2.out.mono ?_
      rintro e w1 ⟨rfl, hb⟩
      have HB1 : Hid (Below w.heap.size w w1 ∧ w1.heap[w.heap.size]? = some (SnBox id r c sa n ka sr m kr g)) := ⟨HB0.out.1.trans (hb.mono HB0.out.1.size), blkM HB0.out.2 hb⟩
      have sn := sncells_of HB1.out.2
      unfold SnC at sn
      obtain ⟨s0, s1, s2, s3, s4, s5, s6, s7, s8⟩ := sn
      clear hb
      go_wp2_with fail
      refine (HAF.out _ HB1.out.1).mono ?_
      rintro e w2 ⟨rfl, hw⟩
      rw [hw]
      clear hw
      go_wp2_with fail
      exact bodyPost_ret (v := .tuple #[.slice none 0 0, .int .i64 4]) (by simp [results, Try.results11, go_sem]) rfl ⟨⟨none, 0, 0, rfl, Or.inr ⟨by decide, rfl, rfl, rfl⟩⟩, HB1.out.1⟩
    | true =>
      have e0 : vecE r c n xs q us = 0 := e1
      rw [vt_fin e0]
      have HMV2 := hid (fun W hW => HMV.out W hW e0)
      obtain ⟨Fv, hF⟩ : ∃ t, finF r.toNat (vecV xs us c.toNat) = t := ⟨_, rfl⟩
      rw [hF] at HMV2 ⊢
      clear e0 e1 e2 hB hF
      go_enter Try.func11, Try.ntmps11
      go_wp2_with fail
      refine HCK2.out.mono ?_
      rintro e w1 ⟨rfl, hb⟩
      have HB1 : Hid (Below w.heap.size w w1 ∧ w1.heap[w.heap.size]? = some (SnBox id r c sa n ka sr m kr g)) := ⟨HB0.out.1.trans (hb.mono HB0.out.1.size), blkM HB0.out.2 hb⟩
      have sn := sncells_of HB1.out.2
      unfold SnC at sn
      obtain ⟨s0, s1, s2, s3, s4, s5, s6, s7, s8⟩ := sn
      clear hb
      go_wp2_with fail
      refine (HAF.out _ HB1.out.1).mono ?_
      rintro e w2 ⟨rfl, hw⟩
      rw [hw]
      clear hw
      go_wp2_with fail
      refine (HMV2.out _ HB1.out.1).mono ?_
      rintro e w3 ⟨⟨s, l, o, rfl, hf, hv, hfo, h12⟩, hb⟩
      have HB3 := hid (HB1.out.1.trans (hb.mono HB1.out.1.size))
      have HAO2 := hid (HAO.out w3 s _ l o hf h12)
      have HFN := hid hf
      have HV := hid hv
      rw [show finM ((List.range r.toNat).map o) = finF r.toNat o from rfl, hfo] at HAO2
      clear hf hv hfo h12 hb
      obtain ⟨R, hR⟩ : ∃ t, Hid (r.toNat = t) := ⟨_, rfl⟩
      rw [hR.out] at HAO2 HFN HV
      have hR' := hR.out
      go_wp2_with fail
      refine HAO2.out.mono ?_
      rintro e w4 ⟨rfl, hw⟩
      rw [hw]
      clear hw
      cases Fv with
      | true =>
        go_wp2_with fail
        refine bodyPost_ret (v := .tuple #[.slice s R l, .int .i64 0]) (by simp [results, Try.results11, go_sem]) rfl ?_
        refine ⟨⟨s, R, l, rfl, ?_⟩, HB3.out⟩
        refine Or.inl ⟨rfl, ?_, o, HFN.out, ?_⟩
        · first | rfl | exact hR'.symm | exact hR'
        · first | exact HV.out | (rw [hR']; exact HV.out)
      | false =>
        go_wp2_with fail
        exact bodyPost_ret (v := .tuple #[.slice none 0 0, .int .i64 5]) (by simp [results, Try.results11, go_sem]) rfl ⟨⟨none, 0, 0, rfl, Or.inr ⟨by decide, rfl, rfl, rfl⟩⟩, HB3.out⟩
  · rw [HS0.out hE0]
    have hne : (E != 0) = true := by simpa using hE0
    have HE0 := hid hE0
    clear hE0
    go_enter Try.func11, Try.ntmps11
    go_wp2_with fail
    refine HCK2.out.mono ?_
    rintro e w1 ⟨rfl, hb⟩
    have HB1 : Hid (Below w.heap.size w w1 ∧ w1.heap[w.heap.size]? = some (SnBox id r c sa n ka sr m kr g)) := ⟨HB0.out.1.trans (hb.mono HB0.out.1.size), blkM HB0.out.2 hb⟩
    have sn := sncells_of HB1.out.2
    unfold SnC at sn
    obtain ⟨s0, s1, s2, s3, s4, s5, s6, s7, s8⟩ := sn
    clear hb
    go_wp2_with fail
    exact bodyPost_ret (v := .tuple #[.slice none 0 0, .int .i64 E]) (by simp [results, Try.results11, go_sem]) rfl ⟨⟨none, 0, 0, rfl, Or.inr ⟨HE0.out, rfl, rfl, rfl⟩⟩, HB1.out.1⟩
theorem same_res (E : Int) (r : Nat) (v : Nat → Nat) (s s2 : Option Addr) (k l k2 l2 : Nat) (w : World) (h : LsC E r v w s k l) (h2 : LsC E r v w s2 k2 l2) : Calls Try.prog 12 #[.slice s k l, .slice s2 k2 l2] w fun e w' => e = .returned (.bool true) ∧ Below w.heap.size w w' := by
  rcases h with ⟨h0, rfl, o, hf, hv⟩ | ⟨h0, rfl, rfl, rfl⟩
  · rcases h2 with ⟨_, rfl, o', hf', hv'⟩ | ⟨h1, _⟩
    · exact SameL_yes s s2 k2 l l2 o o' w hf hf' (fun k hk => by rw [hv k hk, hv' k hk])
    · exact absurd h0 h1
  · rcases h2 with ⟨h1, _⟩ | ⟨_, rfl, rfl, rfl⟩
    · exact absurd h1 h0
    · exact SameL_yes none none 0 0 0 (fun _ => 0) (fun _ => 0) w (Or.inl ⟨rfl, rfl, rfl⟩) (Or.inl ⟨rfl, rfl, rfl⟩) (fun k hk => absurd hk (Nat.not_lt_zero _))
set_option maxRecDepth 4000 in
set_option maxHeartbeats 4000000 in
theorem sees_walk (id r c : Int) (sa : Option Addr) (n ka : Nat) (xs : List Nat) (sr : Option Addr) (m kr : Nat) (ys : List Nat) (g : Nat) (dim : Int) (su : Option Addr) (q ku : Nat) (us : List Nat) (w : World) (_hr : -9223372036854775808 ≤ id ∧ id ≤ 9223372036854775807) (hx : U64At w sa n xs) (hn : n ≤ 17592186043904) (hy : U64At w sr m ys) (hm : m ≤ 17592186043904) (hg : g < 18446744073709551616) (_hd : -9223372036854775808 ≤ dim ∧ dim ≤ 9223372036854775807) (hz : U64At w su q us) (hq : q ≤ 17592186043904) : Calls Try.prog 3 #[.agg #[.int .i64 id, .int .i64 r, .int .i64 c, .slice sa n ka, .slice sr m kr, .int .u64 (g : Int)], .int .i64 dim, .slice su q ku] w fun e w' => e = .returned (.bool true) ∧ Below w.heap.size w w' := by
  have HSN := hid (fun W (hW : Below w.heap.size w W) => sensor_any id r c sa n ka sr m kr g xs ys W (hx.below hW) (hy.below hW) hn hm)
  have HOF := hid (fun W (hW : Below w.heap.size w W) => l_own su q ku us W (hz.below hW) hq)
  have HC1 := hid (fun W ta tk ua uk (h1 : FlM W ta n tk xs) (h2 : FlM W ua m uk ys) => CheckSn_any id r c ta n tk ua m uk g xs ys dim W h1 h2 hn hm hg)
  have HC2 := hid (fun W ta tk ua uk (h1 : FlM W ta n tk xs) (h2 : FlM W ua m uk ys) => rCheckSn_any id r c ta n tk ua m uk g xs ys dim W h1 h2 hn hm hg)
  have HS1 := hid (fun W ta tk ua uk va vk (h1 : FlM W ta n tk xs) (h2 : FlM W ua m uk ys) (h3 : FlM W va q vk us) => Sees_any id r c ta n tk ua m uk g xs ys va q vk us W h1 h2 h3 hn hm hq hg)
  have HS2 := hid (fun W ta tk ua uk va vk (h1 : FlM W ta n tk xs) (h2 : FlM W ua m uk ys) (h3 : FlM W va q vk us) => rSees_any id r c ta n tk ua m uk g xs ys va q vk us W h1 h2 h3 hn hm hq hg)
  have HAW := hid awake14_any
  obtain ⟨E, hE⟩ : ∃ t, snE id r c n xs m ys g dim = t := ⟨_, rfl⟩
  rw [hE] at HC1 HC2
  obtain ⟨Z, hZ⟩ : ∃ t, seT id r c n xs m ys g q us = t := ⟨_, rfl⟩
  rw [hZ] at HS1 HS2
  have HSM := hid (fun s k l s2 k2 l2 W h1 h2 => same_res Z r.toNat (vecV xs us c.toNat) s s2 k l k2 l2 W h1 h2)
  unfold SnV at HSN HC1 HC2 HS1 HS2
  have hEE : (E != E) = false := by simp
  have hZZ : (Z == Z) = true := by simp
  have HB0 : Hid (Below w.heap.size w (w.alloc (LnBox id r c sa n ka sr m kr g)) ∧ (w.alloc (LnBox id r c sa n ka sr m kr g)).heap[w.heap.size]? = some (LnBox id r c sa n ka sr m kr g)) := ⟨(Below.refl _ _).alloc (Nat.le_refl _) _, nblkM _ _⟩
  obtain ⟨V, hV⟩ : ∃ V, Hid (w.alloc (LnBox id r c sa n ka sr m kr g) = V) := ⟨_, rfl⟩
  rw [hV.out] at HB0
  have hV' := hV.out
  unfold LnBox at hV'
  obtain ⟨lb, hlb⟩ : ∃ t, Hid (w.heap.size = t) := ⟨_, rfl⟩
  have hlb' := hlb.out
  have HNX : Hid (∀ W W', (Below w.heap.size w W ∧ W.heap[lb]? = some (LnBox id r c sa n ka sr m kr g)) → Below W.heap.size W W' → (Below w.heap.size w W' ∧ W'.heap[lb]? = some (LnBox id r c sa n ka sr m kr g))) := fun W W' h hb => ⟨h.1.trans (hb.mono h.1.size), blkM h.2 hb⟩
  rw [hlb.out] at HB0
  have HB0 : Hid (Below w.heap.size w V ∧ V.heap[lb]? = some (LnBox id r c sa n ka sr m kr g)) := by have := HB0.out; rw [← hlb.out] at this ⊢; exact this
  have HD0 : Hid (Below w.heap.size w V.drew ∧ V.drew.heap[lb]? = some (LnBox id r c sa n ka sr m kr g)) := ⟨HB0.out.1.drew, HB0.out.2⟩
  have HC : Hid (∀ W, (Below w.heap.size w W ∧ W.heap[lb]? = some (LnBox id r c sa n ka sr m kr g)) → LnC W lb id r c sa n ka sr m kr g) := fun W h => lncells_of h.2
  unfold LnC at HC
  clear hx hy hz hn hm hq hg hE hZ _hr _hd
  go_enter Try.func3, Try.ntmps3
  go_wp2_with fail
  refine wp_region_held_drew (S := fun W => W.cell? ⟨lb, 0, none⟩ = some (.int .i64 id) ∧ W.cell? ⟨lb, 1, none⟩ = some (.int .i64 r) ∧ W.cell? ⟨lb, 2, none⟩ = some (.int .i64 c) ∧ W.cell? ⟨lb, 3, none⟩ = some (.slice sa n ka) ∧ W.cell? ⟨lb, 4, none⟩ = some (.slice sr m kr) ∧ W.cell? ⟨lb, 5, none⟩ = some (.int .u64 (g : Int))) (by kernel_rfl) (HC.out _ HD0.out) (fun hHeld => ?_)
  refine take_at 0 11 (.agg #[.int .i64 id, .int .i64 r, .int .i64 c, .slice sa n ka, .slice sr m kr, .int .u64 (g : Int)]) rfl rfl (by kernel_rfl) (by kernel_rfl) (by kernel_rfl) (fun _ _ _ h => h) (Or.inl ⟨by rfl, fun w hSw => by (try dsimp only at hSw); go_simp⟩) (by assumption) ?_
  simp only [Act.put, List.setIfInBounds_toArray, List.set_cons_zero, List.set_cons_succ]
  refine take_at 2 13 (.int .i64 dim) rfl rfl (by kernel_rfl) (by kernel_rfl) (by kernel_rfl) (fun _ _ _ h => h) (Or.inl ⟨by rfl, fun w hSw => by (try dsimp only at hSw); go_simp⟩) (by assumption) ?_
  simp only [Act.put, List.setIfInBounds_toArray, List.set_cons_zero, List.set_cons_succ]
  refine take_at 4 15 (.agg #[.int .i64 id, .int .i64 r, .int .i64 c, .slice sa n ka, .slice sr m kr, .int .u64 (g : Int)]) rfl rfl (by kernel_rfl) (by kernel_rfl) (by kernel_rfl) (fun _ _ _ h => h) (Or.inl ⟨by rfl, fun w hSw => by (try dsimp only at hSw); go_simp⟩) (by assumption) ?_
  simp only [Act.put, List.setIfInBounds_toArray, List.set_cons_zero, List.set_cons_succ]
  refine take_at 6 17 (.int .i64 dim) rfl rfl (by kernel_rfl) (by kernel_rfl) (by kernel_rfl) (fun _ _ _ h => h) (Or.inl ⟨by rfl, fun w hSw => by (try dsimp only at hSw); go_simp⟩) (by assumption) ?_
  simp only [Act.put, List.setIfInBounds_toArray, List.set_cons_zero, List.set_cons_succ]
  refine wpAnyH_ready (rs := [1]) (by kernel_rfl) (by simp) ?_
  refine AllReadyH.cons (o := _) rfl (fun K' hK => ?_) AllReadyH.nil
  go_simp
  refine (HSN.out _ HD0.out.1).mono ?_
  rintro e u1 ⟨⟨ta, tk, ua, uk, rfl, hf1, hf2⟩, hb⟩
  have HD1 := hid (HNX.out _ _ HD0.out hb)
  have HF1 := hid (And.intro hf1 hf2)
  clear hf1 hf2 hb
  go_wp2_with fail
  refine hK.out _ _ (HC.out _ HD1.out) (fun hHeld1 => ?_)
  clear hK K'
  try simp only [Act.put, List.setIfInBounds_toArray, List.set_cons_zero, List.set_cons_succ]
  refine wpAnyH_ready (rs := [3]) (by kernel_rfl) (by simp) ?_
  refine AllReadyH.cons (o := _) rfl (fun K' hK => ?_) AllReadyH.nil
  go_simp
  refine (HC1.out _ ta tk ua uk HF1.out.1 HF1.out.2).mono ?_
  rintro e u2 ⟨rfl, hb⟩
  have HD2 := hid (HNX.out _ _ HD1.out hb)
  clear hb
  go_wp2_with fail
  refine hK.out _ _ (HC.out _ HD2.out) (fun hHeld3 => ?_)
  clear hK K'
  try simp only [Act.put, List.setIfInBounds_toArray, List.set_cons_zero, List.set_cons_succ]
  refine wpAnyH_ready (rs := [5]) (by kernel_rfl) (by simp) ?_
  refine AllReadyH.cons (o := _) rfl (fun K' hK => ?_) AllReadyH.nil
  go_simp
  refine (HSN.out _ HD2.out.1).mono ?_
  rintro e u3 ⟨⟨ta3, tk3, ua3, uk3, rfl, hf1, hf2⟩, hb⟩
  have HD3 := hid (HNX.out _ _ HD2.out hb)
  have HF3 := hid (And.intro hf1 hf2)
  clear hf1 hf2 hb
  go_wp2_with fail
  refine hK.out _ _ (HC.out _ HD3.out) (fun hHeld5 => ?_)
  clear hK K'
  try simp only [Act.put, List.setIfInBounds_toArray, List.set_cons_zero, List.set_cons_succ]
  refine wpAnyH_ready (rs := [7]) (by kernel_rfl) (by simp) ?_
  refine AllReadyH.cons (o := _) rfl (fun K' hK => ?_) AllReadyH.nil
  go_simp
  refine (HC2.out _ ta3 tk3 ua3 uk3 HF3.out.1 HF3.out.2).mono ?_
  rintro e u4 ⟨rfl, hb⟩
  have HD4 := hid (HNX.out _ _ HD3.out hb)
  clear hb
  go_wp2_with fail
  refine hK.out _ _ (HC.out _ HD4.out) (fun hHeld7 => ?_)
  clear hK K'
  try simp only [Act.put, List.setIfInBounds_toArray, List.set_cons_zero, List.set_cons_succ]
  refine take_at 8 19 (.bool false) rfl rfl (by kernel_rfl) (by kernel_rfl) (by kernel_rfl) (fun _ _ _ h => h) (Or.inl ⟨by rfl, fun w hSw => by (try dsimp only at hSw); go_simp⟩) (by assumption) ?_
  simp only [Act.put, List.setIfInBounds_toArray, List.set_cons_zero, List.set_cons_succ]
  refine take_at 9 20 (.bool false) rfl rfl (by kernel_rfl) (by kernel_rfl) (by kernel_rfl) (fun _ _ _ h => h) (Or.inl ⟨by rfl, fun w hSw => by (try dsimp only at hSw); go_simp⟩) (by assumption) ?_
  simp only [Act.put, List.setIfInBounds_toArray, List.set_cons_zero, List.set_cons_succ]
  refine wpAnyH_ready (rs := [10]) (by kernel_rfl) (by simp) ?_
  refine AllReadyH.cons (o := _) rfl (fun K' hK => ?_) AllReadyH.nil
  go_simp
  refine (HAW.out _).mono ?_
  rintro e u5 ⟨rfl, hb⟩
  have HD5 := hid (HNX.out _ _ HD4.out hb)
  clear hb
  go_wp2_with fail
  refine hK.out _ _ (HC.out _ HD5.out) (fun hHeld10 => ?_)
  clear hK K'
  try simp only [Act.put, List.setIfInBounds_toArray, List.set_cons_zero, List.set_cons_succ]
  refine take_at 11 22 (.bool false) rfl rfl (by kernel_rfl) (by kernel_rfl) (by kernel_rfl) (fun _ _ _ h => h) (Or.inl ⟨by rfl, fun w hSw => by (try dsimp only at hSw); go_simp⟩) (by assumption) ?_
  simp only [Act.put, List.setIfInBounds_toArray, List.set_cons_zero, List.set_cons_succ]
  refine take_at 12 23 (.bool false) rfl rfl (by kernel_rfl) (by kernel_rfl) (by kernel_rfl) (fun _ _ _ h => h) (Or.inl ⟨by rfl, fun w hSw => by (try dsimp only at hSw); go_simp⟩) (by assumption) ?_
  simp only [Act.put, List.setIfInBounds_toArray, List.set_cons_zero, List.set_cons_succ]
  refine wpAnyH_done (by kernel_rfl) ?_ _
  have ln := HC.out _ HD5.out
  obtain ⟨l0, l1, l2, l3, l4, l5⟩ := ln
  go_wp2_with fail
  refine (HSN.out _ HD5.out.1).mono ?_
  rintro e w6 ⟨⟨ta6, tk6, ua6, uk6, rfl, hf1, hf2⟩, hb⟩
  have HD6 := hid (HNX.out _ _ HD5.out hb)
  have HF6 := hid (And.intro hf1 hf2)
  clear hf1 hf2 hb
  go_wp2_with fail
  refine (HOF.out _ HD6.out.1).mono ?_
  rintro e w7 ⟨va, vk, rfl, ho, hb⟩
  have HD7 := hid (HNX.out _ _ HD6.out hb)
  have HF7 := hid (And.intro (HF6.out.1.below hb) (And.intro (HF6.out.2.below hb) ho.1))
  clear ho hb
  go_wp2_with fail
  refine (HS1.out _ ta6 tk6 ua6 uk6 va vk HF7.out.1 HF7.out.2.1 HF7.out.2.2).mono ?_
  rintro e w8 ⟨⟨s, k, l, rfl, hl⟩, hb⟩
  have HD8 := hid (HNX.out _ _ HD7.out hb)
  have HL8 := hid hl
  clear hl hb
  have ln := HC.out _ HD8.out
  obtain ⟨l0, l1, l2, l3, l4, l5⟩ := ln
  go_wp2_with fail
  refine (HSN.out _ HD8.out.1).mono ?_
  rintro e w9 ⟨⟨ta9, tk9, ua9, uk9, rfl, hf1, hf2⟩, hb⟩
  have HD9 := hid (HNX.out _ _ HD8.out hb)
  have HF9 := hid (And.intro hf1 hf2)
  have HL9 := hid (HL8.out.below hb)
  clear hf1 hf2 hb
  go_wp2_with fail
  refine (HOF.out _ HD9.out.1).mono ?_
  rintro e wa ⟨vb, vl, rfl, ho, hb⟩
  have HDa := hid (HNX.out _ _ HD9.out hb)
  have HFa := hid (And.intro (HF9.out.1.below hb) (And.intro (HF9.out.2.below hb) ho.1))
  have HLa := hid (HL9.out.below hb)
  clear ho hb
  go_wp2_with fail
  refine (HS2.out _ ta9 tk9 ua9 uk9 vb vl HFa.out.1 HFa.out.2.1 HFa.out.2.2).mono ?_
  rintro e wb ⟨⟨s2, k2, l2', rfl, hl⟩, hb⟩
  have HDb := hid (HNX.out _ _ HDa.out hb)
  have HLb := hid (And.intro (HLa.out.below hb) hl)
  clear hl hb
  go_wp2_with fail
  refine (HSM.out _ _ _ _ _ _ _ HLb.out.1 HLb.out.2).mono ?_
  rintro e wc ⟨rfl, hb⟩
  have HDc := hid (HNX.out _ _ HDb.out hb)
  clear hb
  go_wp2_with fail
  go_ret
  have hbe := HDc.out.1
  first | exact ⟨rfl, hbe⟩ | (rw [hlb'] at hbe; exact ⟨rfl, hbe⟩)
end Go.Proofs.Ytmcanbkfijiicaa
