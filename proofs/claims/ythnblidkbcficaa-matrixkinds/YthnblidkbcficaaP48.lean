
/- The document's Norms; Norms, Mean of any matrix. (Written by mknci.py.) -/
import Derived.Test.YthnblidkbcficaaP47
namespace Go.Proofs.Ythnblidkbcficaa
open Go.RowKit Go.IntWalk

theorem rallF2 (R : Nat) (s : Option Addr) (l : Nat) (o : Nat → Nat) (w : World) (h : FnM w s R l o) (hn : R ≤ 17592186043904) : Calls Try.prog 64 #[.slice s R l] w fun e w' => e = .returned (.bool (finF R o)) ∧ w' = w :=
  (rall_any s R l ((List.range R).map o) w (FnM.toFl (by simp) (by
    rcases h with h | ⟨b, off, h1, h2, h3, h4, h5⟩
    · exact Or.inl h
    · refine Or.inr ⟨b, off, h1, h2, h3, h4, fun k hk => ?_⟩
      have : ((List.range R).map o).getD k 0 = o k := by simp [List.getD_eq_getElem?_getD, hk]
      dsimp only
      rw [this]
      exact h5 k hk)) hn).mono (fun e w' hh => hh)
theorem two_fn {W : World} {g a b : Nat} (hblk : W.heap[g]? = some (.cells #[.float .f64 a, .float .f64 b] 51)) (ha : a < 18446744073709551616) (hb : b < 18446744073709551616) : FnM W (some ⟨g, 0, none⟩) 2 2 (fun k => if k = 0 then a else b) := by
  refine Or.inr ⟨g, 0, rfl, (Array.getElem?_eq_some_iff.1 hblk).1, Nat.le_refl _, by decide, fun j hj => ?_⟩
  match j, hj with
  | 0, _ => exact ⟨by simp [World.cell?, hblk], ha⟩
  | 1, _ => exact ⟨by simp [World.cell?, hblk], hb⟩
theorem al_two (a b : Nat) (w : World) (ha : a < 18446744073709551616) (hb : b < 18446744073709551616) : Calls Try.prog 64 #[.slice (some ⟨w.heap.size, 0, none⟩) 2 2] (w.alloc (.cells #[.float .f64 a, .float .f64 b] 51)) fun e w' => e = .returned (.bool (finB a && finB b)) ∧ w' = w.alloc (.cells #[.float .f64 a, .float .f64 b] 51) := by
  have h := two_fn (nblkM w (.cells #[.float .f64 a, .float .f64 b] 51)) ha hb
  have := rallF2 2 _ 2 (fun k => if k = 0 then a else b) _ h (by decide)
  rw [show finF 2 (fun k => if k = 0 then a else b) = (finB a && finB b) from by
    unfold finF finM
    simp [List.range_succ, finB_exp a ha, finB_exp b hb]] at this
  exact this
set_option maxRecDepth 4000 in
set_option maxHeartbeats 2000000 in
theorem rNorms_ok (r c n : Nat) (sa : Option Addr) (ka : Nat) (f : Nat → Nat) (w : World) (ha : Gd w r c sa n ka f) :
    Calls Try.prog 78 #[.agg #[.int .i64 r, .int .i64 c, .slice sa n ka]] w fun e w' => e = .returned (nrmA f r c) ∧ Below w.heap.size w w' := by
  have l1 := ha.1
  have l2 := ha.2.1
  have hn := ha.2.2.1
  have HRC : Hid (r ≤ 12 ∧ c ≤ 12) := ⟨l1, l2⟩
  have HN144 : Hid (n ≤ 144) := ha.le
  have HFN := hid ha.2.2.2.1
  have HXA := hid (fun k (hk : k < r * c) => gd_fin ha k hk)
  have HNL := hid (am_fin (fun k hk => (gd_fin ha k hk).2))
  have HROW : Hid (∀ W i, Below w.heap.size w W → i < r → Calls Try.prog 33 #[.agg #[.int .i64 r, .int .i64 c, .slice sa n ka], .int .i64 (i : Nat)] W fun e w' => (∃ s l, e = .returned (.slice s c l) ∧ FnM w' s c l (fun t => f (i * c + t))) ∧ Below W.heap.size W w') := fun W i hW hi => rRow_any r c i n ka sa f W (ha.2.2.2.1.below hW) l1 l2 hn hi
  have HCOL : Hid (∀ W j, Below w.heap.size w W → j < c → Calls Try.prog 36 #[.agg #[.int .i64 r, .int .i64 c, .slice sa n ka], .int .i64 (j : Nat)] W fun e w' => (∃ s l, e = .returned (.slice s r l) ∧ FnM w' s r l (fun t => f (t * c + j))) ∧ Below W.heap.size W w') := fun W j hW hj => rCol_any r c j n ka sa f W (ha.2.2.2.1.below hW) l1 l2 hn hj
  obtain ⟨S1, hS1⟩ : ∃ S : Nat → Nat, Hid ((fun i => amS (fun j => f (j * c + i)) r) = S) := ⟨_, rfl⟩
  obtain ⟨S2, hS2⟩ : ∃ S : Nat → Nat, Hid ((fun i => amS (fun j => f (i * c + j)) c) = S) := ⟨_, rfl⟩
  obtain ⟨S3, hS3⟩ : ∃ S : Nat → Nat, Hid ((fun k => f k % 9223372036854775808) = S) := ⟨_, rfl⟩
  have HM1 : Hid (∀ k, k < c → ∀ s l W, FnM W s r l (fun t => f (t * c + k)) → Calls Try.prog 128 #[.slice s r l] W fun e w' => e = .returned (.float .f64 (S1 k)) ∧ w' = W) := fun k hk s l W h => by
    have := amounts_any s r l _ W h (fun t ht => (HXA.out _ (place_lt ht hk)).2) (by omega)
    rw [← hS1.out]
    exact this
  have HM2 : Hid (∀ k, k < r → ∀ s l W, FnM W s c l (fun t => f (k * c + t)) → Calls Try.prog 128 #[.slice s c l] W fun e w' => e = .returned (.float .f64 (S2 k)) ∧ w' = W) := fun k hk s l W h => by
    have := amounts_any s c l _ W h (fun t ht => (HXA.out _ (place_lt hk ht)).2) (by omega)
    rw [← hS2.out]
    exact this
  have HA1 : Hid (∀ k, k < c → S1 k ≤ 9218868437227405312) := fun k hk => by rw [← hS1.out]; exact amS_le r (fun t ht => (HXA.out _ (place_lt ht hk)).2)
  have HA2 : Hid (∀ k, k < r → S2 k ≤ 9218868437227405312) := fun k hk => by rw [← hS2.out]; exact amS_le c (fun t ht => (HXA.out _ (place_lt hk ht)).2)
  have HA3 : Hid (∀ k, k < n → S3 k ≤ 9218868437227405312) := fun k hk => by rw [← hS3.out]; exact Nat.le_of_lt (HXA.out k (by rw [← hn]; exact hk)).2
  have HS3 : Hid (∀ k, S3 k = f k % 9223372036854775808) := fun k => by rw [← hS3.out]
  have HW1 : Hid (∀ k, k ≤ c → widM S1 k ≤ 9218868437227405312) := fun k hk => widM_le k (fun t ht => HA1.out t (by omega))
  have HW2 : Hid (∀ k, k ≤ r → widM S2 k ≤ 9218868437227405312) := fun k hk => widM_le k (fun t ht => HA2.out t (by omega))
  have HW3 : Hid (∀ k, k ≤ n → widM S3 k ≤ 9218868437227405312) := fun k hk => widM_le k (fun t ht => HA3.out t (by omega))
  have HB0 : Hid (Below w.heap.size w (w.alloc (MBox r c sa n ka))) := (Below.refl _ _).alloc (Nat.le_refl _) _
  have HX0 : Hid ((w.alloc (MBox r c sa n ka)).heap[w.heap.size]? = some (MBox r c sa n ka)) := nblkM _ _
  obtain ⟨Z, hZ⟩ : ∃ t, Hid (nrmA f r c = t) := ⟨_, rfl⟩
  have HZ1 : Hid ((finB (widM S1 c) && finB (widM S2 r)) = true → Z = .tuple #[.float .f64 (widM S1 c), .float .f64 (widM S2 r), .float .f64 (widM S3 n), .int .i64 0]) := fun h => by
    rw [← hZ.out, hn, ← hS1.out, ← hS2.out, ← hS3.out]
    rw [← hS1.out, ← hS2.out] at h
    unfold nrmA
    rw [show nrmB f r c = true from h]
    rfl
  have HZ0 : Hid ((finB (widM S1 c) && finB (widM S2 r)) = false → Z = .tuple #[.float .f64 0, .float .f64 0, .float .f64 0, .int .i64 5]) := fun h => by
    rw [← hZ.out]
    rw [← hS1.out, ← hS2.out] at h
    unfold nrmA
    rw [show nrmB f r c = false from h]
    rfl
  obtain ⟨V, hV⟩ : ∃ V, Hid (w.alloc (MBox r c sa n ka) = V) := ⟨_, rfl⟩
  rw [hV.out] at HB0 HX0
  have hV' := hV.out
  unfold MBox at hV'
  obtain ⟨p0, hp0⟩ : ∃ t, Hid (w.heap.size = t) := ⟨_, rfl⟩
  rw [hp0.out] at HX0
  have hp0' := hp0.out
  obtain ⟨x0, x1, x2⟩ := mcells_of HX0.out
  rw [hZ.out]
  have HL1 := hid (HW1.out c (Nat.le_refl _))
  have HL2 := hid (HW2.out r (Nat.le_refl _))
  clear ha l1 l2 hn
  go_enter Try.func78, Try.ntmps78
  go_wp2_with fail
  go_loopw [6, 9] (fun gv iv wr => ∃ k : Nat, k ≤ c ∧ gv = .float .f64 (widM S1 k) ∧ iv = .int .i64 k ∧ Hid (Below w.heap.size w wr) ∧ Hid (wr.heap[p0]? = some (MBox r c sa n ka))) (fun _ iv _ => c - (intOf iv).toNat)
  case atStart => exact ⟨0, Nat.zero_le _, rfl, rfl, HB0, HX0⟩
  case round =>
    obtain ⟨k, hk, rfl, rfl, HB1, HX1⟩ := hrel
    obtain ⟨x0, x1, x2⟩ := mcells_of HX1.out
    obtain ⟨l1, l2⟩ := HRC.out
    by_cases hlt : k < c
    · have hkI : (k : Int) < (c : Int) := by omega
      have HK := hid hlt
      obtain ⟨G, hG⟩ : ∃ t, Hid (widM S1 k = t) := ⟨_, rfl⟩
      have HGL := hid (HW1.out k (by omega))
      have HG1 : Hid (widM S1 (k + 1) = gmx G (S1 k)) := by show _ = _; rw [widM, hG.out]
      have HSL := hid (HA1.out k hlt)
      rw [hG.out] at HGL
      rw [hG.out]
      clear hlt
      go_wp2_with fail
      refine (HCOL.out _ k HB1.out HK.out).mono ?_
      rintro e w1 ⟨⟨s1, k1, rfl, hf1⟩, hb1⟩
      have HBa := hid (HB1.out.trans (hb1.mono HB1.out.size))
      have HXa := hid (blkM HX1.out hb1)
      have HAM := hid (HM1.out k HK.out s1 k1 w1 hf1)
      have hmx := fun ts t W => run_gmx HGL.out HSL.out ts t W
      obtain ⟨Q, hQ⟩ : ∃ t, Hid (S1 k = t) := ⟨_, rfl⟩
      rw [hQ.out] at HAM hmx HG1
      obtain ⟨R, hR⟩ : ∃ t, Hid (gmx G Q = t) := ⟨_, rfl⟩
      rw [hR.out] at HG1 hmx
      clear hb1 hf1
      go_wp2_with fail
      refine HAM.out.mono ?_
      rintro e ww ⟨rfl, hw⟩
      rw [hw]
      clear hw
      go_wp2_with fail
      have hk1 := HK.out
      refine ⟨⟨k + 1, by omega, by rw [HG1.out], by go_num, HBa, HXa⟩, ?_⟩
      simp [intOf]; omega
    · obtain rfl : c = k := by omega
      obtain ⟨N1, hN1⟩ : ∃ t, Hid (widM S1 c = t) := ⟨_, rfl⟩
      rw [hN1.out] at HZ1 HZ0 HL1
      rw [hN1.out]
      go_wp2_with fail
      go_loopw [7, 10] (fun gv iv wr => ∃ k : Nat, k ≤ r ∧ gv = .float .f64 (widM S2 k) ∧ iv = .int .i64 k ∧ Hid (Below w.heap.size w wr) ∧ Hid (wr.heap[p0]? = some (MBox r c sa n ka))) (fun _ iv _ => r - (intOf iv).toNat)
      case atStart => exact ⟨0, Nat.zero_le _, rfl, rfl, HB1, HX1⟩
      case round =>
        obtain ⟨k, hk, rfl, rfl, HB2, HX2⟩ := hrel
        obtain ⟨x0, x1, x2⟩ := mcells_of HX2.out
        obtain ⟨l1, l2⟩ := HRC.out
        by_cases hlt : k < r
        · have hkI : (k : Int) < (r : Int) := by omega
          have HK := hid hlt
          obtain ⟨G, hG⟩ : ∃ t, Hid (widM S2 k = t) := ⟨_, rfl⟩
          have HGL := hid (HW2.out k (by omega))
          have HG1 : Hid (widM S2 (k + 1) = gmx G (S2 k)) := by show _ = _; rw [widM, hG.out]
          have HSL := hid (HA2.out k hlt)
          rw [hG.out] at HGL
          rw [hG.out]
          clear hlt
          go_wp2_with fail
          refine (HROW.out _ k HB2.out HK.out).mono ?_
          rintro e w1 ⟨⟨s1, k1, rfl, hf1⟩, hb1⟩
          have HBa := hid (HB2.out.trans (hb1.mono HB2.out.size))
          have HXa := hid (blkM HX2.out hb1)
          have HAM := hid (HM2.out k HK.out s1 k1 w1 hf1)
          have hmx := fun ts t W => run_gmx HGL.out HSL.out ts t W
          obtain ⟨Q, hQ⟩ : ∃ t, Hid (S2 k = t) := ⟨_, rfl⟩
          rw [hQ.out] at HAM hmx HG1
          obtain ⟨R, hR⟩ : ∃ t, Hid (gmx G Q = t) := ⟨_, rfl⟩
          rw [hR.out] at HG1 hmx
          clear hb1 hf1
          go_wp2_with fail
          refine HAM.out.mono ?_
          rintro e ww ⟨rfl, hw⟩
          rw [hw]
          clear hw
          go_wp2_with fail
          have hk1 := HK.out
          refine ⟨⟨k + 1, by omega, by rw [HG1.out], by go_num, HBa, HXa⟩, ?_⟩
          simp [intOf]; omega
        · obtain rfl : r = k := by omega
          obtain ⟨N2, hN2⟩ : ∃ t, Hid (widM S2 r = t) := ⟨_, rfl⟩
          rw [hN2.out] at HZ1 HZ0 HL2
          rw [hN2.out]
          go_wp2_with fail
          go_loopw [8, 11] (fun gv iv wr => ∃ k : Nat, k ≤ n ∧ gv = .float .f64 (widM S3 k) ∧ iv = .int .i64 k ∧ Hid (Below w.heap.size w wr) ∧ Hid (wr.heap[p0]? = some (MBox r c sa n ka))) (fun _ iv _ => n - (intOf iv).toNat)
          case atStart => exact ⟨0, Nat.zero_le _, rfl, rfl, HB2, HX2⟩
          case round =>
            obtain ⟨k, hk, rfl, rfl, HB3, HX3⟩ := hrel
            obtain ⟨x0, x1, x2⟩ := mcells_of HX3.out
            have h144 := HN144.out
            by_cases hlt : k < n
            · obtain ⟨b, off, hs, hbl, _, _, hc⟩ : ∃ b off, sa = some ⟨b, off, none⟩ ∧ b < w.heap.size ∧ n ≤ ka ∧ ka ≤ 9223372036854775807 ∧ ∀ j, j < n → w.cell? ⟨b, off + j, none⟩ = some (.float .f64 (f j)) ∧ f j < 18446744073709551616 := by
                rcases HFN.out with ⟨_, h, _⟩ | h
                · omega
                · exact h
              subst hs
              have hkI : (k : Int) < (n : Int) := by omega
              have hk0 : (0 : Int) ≤ (k : Int) := by omega
              have hcell := (HB3.out.cell (p := ⟨b, off + k, none⟩) hbl).trans (hc k hlt).1
              have HAB := hid (fun W => absq_fl (f k) W (hc k hlt).2)
              have hmx := fun ts t W => run_gmx (HW3.out k (by omega)) (HA3.out k hlt) ts t W
              have HK1 : Hid (widM S3 (k + 1) = gmx (widM S3 k) (S3 k)) := rfl
              rw [HS3.out k] at hmx HK1
              obtain ⟨G, hG⟩ : ∃ t, Hid (widM S3 k = t) := ⟨_, rfl⟩
              obtain ⟨z, hz⟩ : ∃ t, Hid (f k = t) := ⟨_, rfl⟩
              rw [hz.out] at hcell HAB hmx HK1
              obtain ⟨y, hy⟩ : ∃ t, Hid (z % 9223372036854775808 = t) := ⟨_, rfl⟩
              rw [hG.out, hy.out] at hmx HK1
              rw [hy.out] at HAB
              rw [hG.out]
              obtain ⟨Q, hQ⟩ : ∃ t, Hid (gmx G y = t) := ⟨_, rfl⟩
              rw [hQ.out] at hmx HK1
              have HK := hid hlt
              clear hc hlt hbl
              go_wp2_with fail
              refine (HAB.out _).mono ?_
              rintro e ww ⟨rfl, hw⟩
              rw [hw]
              clear hw
              go_wp2_with fail
              have hk1 := HK.out
              refine ⟨⟨k + 1, by omega, by rw [HK1.out], by go_num, HB3, HX3⟩, ?_⟩
              simp [intOf]; omega
            · obtain rfl : n = k := by omega
              have hal : Below wr.heap.size wr (wr.alloc (.cells #[.float .f64 N1, .float .f64 N2] 51)) := (Below.refl _ _).alloc (Nat.le_refl _) _
              have HBE := hid (HB3.out.trans (hal.mono HB3.out.size))
              have HAL := hid (al_two N1 N2 wr (by have := HL1.out; omega) (by have := HL2.out; omega))
              obtain ⟨D3, hD3⟩ : ∃ t, Hid (widM S3 n = t) := ⟨_, rfl⟩
              rw [hD3.out]
              clear hal
              cases fb : (finB N1 && finB N2) with
              | true =>
                rw [fb] at HAL
                have HZF := hid (HZ1.out fb)
                rw [hD3.out] at HZF
                clear fb
                go_wp2_with fail
                refine HAL.out.mono ?_
                rintro e ww ⟨rfl, hw⟩
                rw [hw]
                clear hw
                go_wp2_with fail
                exact bodyPost_ret (v := .tuple #[.float .f64 N1, .float .f64 N2, .float .f64 D3, .int .i64 0]) (by simp [results, Try.results78, go_sem]) rfl ⟨by rw [HZF.out], HBE.out⟩
              | false =>
                rw [fb] at HAL
                have HZF := hid (HZ0.out fb)
                clear fb
                go_wp2_with fail
                refine HAL.out.mono ?_
                rintro e ww ⟨rfl, hw⟩
                rw [hw]
                clear hw
                go_wp2_with fail
                exact bodyPost_ret (v := .tuple #[.float .f64 0, .float .f64 0, .float .f64 0, .int .i64 5]) (by simp [results, Try.results78, go_sem]) rfl ⟨by rw [HZF.out], HBE.out⟩
theorem Norms_non (r c E : Int) (sa : Option Addr) (n ka : Nat) (w : World) (hE : E ≠ 0) (hS : ∀ W, Below w.heap.size w W → Calls Try.prog 10 #[.agg #[.int .i64 r, .int .i64 c, .slice sa n ka]] W fun e w' => e = .returned (.int .i64 E) ∧ Below W.heap.size W w') :
    Calls Try.prog 77 #[.agg #[.int .i64 r, .int .i64 c, .slice sa n ka]] w fun e w' => e = .returned (.tuple #[.float .f64 0, .float .f64 0, .float .f64 0, .int .i64 E]) ∧ Below w.heap.size w w' := by
  have HB0 : Hid (Below w.heap.size w (w.alloc (MBox r c sa n ka))) := (Below.refl _ _).alloc (Nat.le_refl _) _
  have HX0 : Hid ((w.alloc (MBox r c sa n ka)).heap[w.heap.size]? = some (MBox r c sa n ka)) := nblkM _ _
  have hne : (E != 0) = true := by simpa using hE
  have HS := hid hS
  obtain ⟨V, hV⟩ : ∃ V, Hid (w.alloc (MBox r c sa n ka) = V) := ⟨_, rfl⟩
  rw [hV.out] at HB0 HX0
  have hV' := hV.out
  unfold MBox at hV'
  obtain ⟨x0, x1, x2⟩ := mcells_of HX0.out
  clear hS hE
  go_enter Try.func77, Try.ntmps77
  go_wp2_with fail
  refine (HS.out _ HB0.out).mono ?_
  rintro e w1 ⟨rfl, hb1⟩
  have HB1 := hid (HB0.out.trans (hb1.mono HB0.out.size))
  clear hb1
  go_wp2_with fail
  exact bodyPost_ret (v := .tuple #[.float .f64 0, .float .f64 0, .float .f64 0, .int .i64 E]) (by simp [results, Try.results77, go_sem]) rfl ⟨rfl, HB1.out⟩
/-- Norms' numbers and error, of any matrix. -/
def nrmK (rx cx : Int) (n : Nat) (xs : List Nat) : Bool := decide (chkM rx cx n xs = 0) && nrmB (fun j => xs.getD j 0) rx.toNat cx.toNat
def nrmT (rx cx : Int) (n : Nat) (xs : List Nat) : Int := if chkM rx cx n xs = 0 then (if nrmB (fun j => xs.getD j 0) rx.toNat cx.toNat = true then 0 else 5) else chkM rx cx n xs
def nrmX (rx cx : Int) (n : Nat) (xs : List Nat) (v : Nat) : Nat := if nrmK rx cx n xs = true then v else 0
theorem nrm_some {rx cx : Int} {n : Nat} {xs : List Nat} (h : chkM rx cx n xs = 0) : nrmA (fun j => xs.getD j 0) rx.toNat cx.toNat = .tuple #[.float .f64 (nrmX rx cx n xs (nrm1 (fun j => xs.getD j 0) rx.toNat cx.toNat)), .float .f64 (nrmX rx cx n xs (nrm2 (fun j => xs.getD j 0) rx.toNat cx.toNat)), .float .f64 (nrmX rx cx n xs (nrm3 (fun j => xs.getD j 0) (rx.toNat * cx.toNat))), .int .i64 (nrmT rx cx n xs)] := by
  unfold nrmA nrmX nrmT nrmK
  rw [decide_eq_true h, Bool.true_and, if_pos h]
theorem Norms_tot (rx cx : Int) (sa : Option Addr) (n ka : Nat) (xs : List Nat) (w : World) (ha : FlM w sa n ka xs) (hn : n ≤ 17592186043904) :
    Calls Try.prog 77 #[.agg #[.int .i64 rx, .int .i64 cx, .slice sa n ka]] w fun e w' => e = .returned (.tuple #[.float .f64 (nrmX rx cx n xs (nrm1 (fun j => xs.getD j 0) rx.toNat cx.toNat)), .float .f64 (nrmX rx cx n xs (nrm2 (fun j => xs.getD j 0) rx.toNat cx.toNat)), .float .f64 (nrmX rx cx n xs (nrm3 (fun j => xs.getD j 0) (rx.toNat * cx.toNat))), .int .i64 (nrmT rx cx n xs)]) ∧ Below w.heap.size w w' := by
  by_cases h : chkM rx cx n xs = 0
  · rw [← nrm_some h]
    obtain ⟨r, c, rfl, rfl, hga⟩ := gd_of ha h
    exact Norms_ok r c n sa ka _ w hga
  · have e1 : ∀ v, nrmX rx cx n xs v = 0 := fun v => by unfold nrmX nrmK; rw [decide_eq_false h, Bool.false_and, if_neg (by decide)]
    rw [e1, e1, e1, show nrmT rx cx n xs = chkM rx cx n xs from by unfold nrmT; rw [if_neg h]]
    exact Norms_non rx cx _ sa n ka w h (fun W hW => Check_any rx cx sa n ka xs W (ha.below hW) hn)
theorem rNorms_tot (rx cx : Int) (sa : Option Addr) (n ka : Nat) (xs : List Nat) (w : World) (ha : FlM w sa n ka xs) (h : chkM rx cx n xs = 0) :
    Calls Try.prog 78 #[.agg #[.int .i64 rx, .int .i64 cx, .slice sa n ka]] w fun e w' => e = .returned (.tuple #[.float .f64 (nrmX rx cx n xs (nrm1 (fun j => xs.getD j 0) rx.toNat cx.toNat)), .float .f64 (nrmX rx cx n xs (nrm2 (fun j => xs.getD j 0) rx.toNat cx.toNat)), .float .f64 (nrmX rx cx n xs (nrm3 (fun j => xs.getD j 0) (rx.toNat * cx.toNat))), .int .i64 (nrmT rx cx n xs)]) ∧ Below w.heap.size w w' := by
  rw [← nrm_some h]
  obtain ⟨r, c, rfl, rfl, hga⟩ := gd_of ha h
  exact rNorms_ok r c n sa ka _ w hga
theorem nrmX_fin (rx cx : Int) (n : Nat) (xs : List Nat) (ha : xs.length = n) (hx : ∀ x ∈ xs, x < 18446744073709551616) : nrmX rx cx n xs (nrm1 (fun j => xs.getD j 0) rx.toNat cx.toNat) ≤ 9218868437227405312 ∧ nrmX rx cx n xs (nrm2 (fun j => xs.getD j 0) rx.toNat cx.toNat) ≤ 9218868437227405312 ∧ nrmX rx cx n xs (nrm3 (fun j => xs.getD j 0) (rx.toNat * cx.toNat)) ≤ 9218868437227405312 := by
  unfold nrmX nrmK
  by_cases h : chkM rx cx n xs = 0
  · obtain ⟨a, b, rfl, rfl, h1, h2, h3, h4⟩ := chk_some h
    have hf : ∀ k, k < a * b → xs.getD k 0 % 9223372036854775808 < 9218868437227405312 := fun k hk => by
      have hl : xs.getD k 0 < 18446744073709551616 := hx _ (mem_getM xs _ (by omega))
      refine fin_exp hl ?_
      have := (finF_iff n (fun j => xs.getD j 0)).1 (fin_get ha h4) k (by omega)
      exact this
    have q := am_fin (r := a) (c := b) hf
    have q3 : nrm3 (fun j => xs.getD j 0) (a * b) ≤ 9218868437227405312 := widM_le _ (fun k hk => Nat.le_of_lt (hf k hk))
    refine ⟨?_, ?_, ?_⟩ <;> split
    · exact q.1
    · exact Nat.zero_le _
    · exact q.2
    · exact Nat.zero_le _
    · exact q3
    · exact Nat.zero_le _
  · rw [decide_eq_false h, Bool.false_and]
    exact ⟨Nat.zero_le _, Nat.zero_le _, Nat.zero_le _⟩
/-- What Mean tells of any matrix. -/
def meaT (rx cx : Int) (n : Nat) (xs : List Nat) : Int := if sqE rx cx n xs = 0 then (if finV rx.toNat rx.toNat (meaV (fun j => xs.getD j 0) rx.toNat) = true then 0 else 5) else sqE rx cx n xs
theorem Mean_tot (rx cx : Int) (sa : Option Addr) (n ka : Nat) (xs : List Nat) (w : World) (ha : FlM w sa n ka xs) (hn : n ≤ 17592186043904) :
    Calls Try.prog 74 #[.agg #[.int .i64 rx, .int .i64 cx, .slice sa n ka]] w fun e w' => (∃ X0 X1 X2 X3 X4, e = .returned (.tuple #[.agg #[.int .i64 X0, .int .i64 X1, .slice X2 X3 X4], .int .i64 (meaT rx cx n xs)]) ∧ ResM (meaT rx cx n xs) rx.toNat rx.toNat (meaV (fun j => xs.getD j 0) rx.toNat) w' X0 X1 X2 X3 X4) ∧ Below w.heap.size w w' := by
  unfold meaT
  by_cases h : sqE rx cx n xs = 0
  · rw [if_pos h]
    obtain ⟨h1, h2⟩ := sq_zero h
    subst h2
    obtain ⟨r, c, rfl, hc, hga⟩ := gd_of ha h1
    have hc' : r = c := by omega
    subst hc'
    refine (Mean_ok r n sa ka _ w hga).mono ?_
    rintro e w' ⟨⟨g, o, rfl, hf, hs, hv⟩, hbb⟩
    obtain ⟨X0, X1, X2, X3, X4, e1, e2⟩ := res_of r r g o (meaV (fun j => xs.getD j 0) r) (if finV r r (meaV (fun j => xs.getD j 0) r) = true then 0 else 5) w' rfl hf (fun i j hi hj => by
      unfold meaV
      by_cases q : j ≤ i
      · rw [if_pos q]; exact mean_can w (fun k hk => gd_fin hga k hk) hi hj (hv i j hi q)
      · rw [if_neg q, hs i j hi hj]; exact mean_can w (fun k hk => gd_fin hga k hk) hj hi (hv j i hj (by omega)))
    exact ⟨⟨X0, X1, X2, X3, X4, by rw [e1]; rfl, e2⟩, hbb⟩
  · rw [if_neg h]
    refine (Mean_non rx cx _ n sa ka w h (fun W hW => square_tot rx cx sa n ka xs W (ha.below hW) hn)).mono ?_
    rintro e w' ⟨rfl, hbb⟩
    obtain ⟨X0, X1, X2, X3, X4, e1, e2⟩ := res_non rx.toNat rx.toNat (meaV (fun j => xs.getD j 0) rx.toNat) _ w' h
    exact ⟨⟨X0, X1, X2, X3, X4, by rw [e1], e2⟩, hbb⟩
theorem rMean_shape (r c : Int) (n : Nat) (sa : Option Addr) (ka : Nat) (w : World) (hs : ¬ r = c) :
    Calls Try.prog 73 #[.agg #[.int .i64 r, .int .i64 c, .slice sa n ka]] w fun e w' => e = .returned (NonM 3) ∧ Below w.heap.size w w' := by
  obtain ⟨t1, t2, t3, t4⟩ := two_b w (MBox r c sa n ka) (MBox 0 0 none 0 0)
  have hne : (r != c) = true := by simpa using hs
  obtain ⟨V, hV⟩ : ∃ V, Hid ((w.alloc (MBox r c sa n ka)).alloc (MBox 0 0 none 0 0) = V) := ⟨_, rfl⟩
  rw [hV.out] at t1 t2 t3 t4
  have hV' := hV.out
  have HB := hid t3
  obtain ⟨x0, x1, x2⟩ := mcells_of t1
  obtain ⟨r0, r1, r2⟩ := mcells_of t2
  have fz := frzM t2
  unfold MBox at hV'
  unfold NonM MV
  clear t1 t2 t3 t4 hs
  go_enter Try.func73, Try.ntmps73
  go_wp2_with fail
  exact bodyPost_ret (v := .tuple #[MV 0 0 none 0 0, .int .i64 3]) (by simp [results, Try.results73, go_sem, r0, r1, r2, MV]) rfl ⟨rfl, StoM.below HB.out (by omega)⟩
theorem rMean_tot (rx cx : Int) (sa : Option Addr) (n ka : Nat) (xs : List Nat) (w : World) (ha : FlM w sa n ka xs) (hz : chkM rx cx n xs = 0) :
    Calls Try.prog 73 #[.agg #[.int .i64 rx, .int .i64 cx, .slice sa n ka]] w fun e w' => (∃ X0 X1 X2 X3 X4, e = .returned (.tuple #[.agg #[.int .i64 X0, .int .i64 X1, .slice X2 X3 X4], .int .i64 (meaT rx cx n xs)]) ∧ ResM (meaT rx cx n xs) rx.toNat rx.toNat (meaV (fun j => xs.getD j 0) rx.toNat) w' X0 X1 X2 X3 X4) ∧ Below w.heap.size w w' := by
  unfold meaT
  by_cases h : sqE rx cx n xs = 0
  · rw [if_pos h]
    obtain ⟨h1, h2⟩ := sq_zero h
    subst h2
    obtain ⟨r, c, rfl, hc, hga⟩ := gd_of ha h1
    have hc' : r = c := by omega
    subst hc'
    refine (rMean_ok r n sa ka _ w hga).mono ?_
    rintro e w' ⟨⟨g, o, rfl, hf, hv⟩, hbb⟩
    obtain ⟨X0, X1, X2, X3, X4, e1, e2⟩ := res_of r r g o (meaV (fun j => xs.getD j 0) r) (if finV r r (meaV (fun j => xs.getD j 0) r) = true then 0 else 5) w' rfl hf hv
    exact ⟨⟨X0, X1, X2, X3, X4, by rw [e1]; rfl, e2⟩, hbb⟩
  · rw [if_neg h]
    have hs : ¬ rx = cx := fun q => h (by unfold sqE first2; rw [if_pos hz, if_pos q])
    refine (rMean_shape rx cx n sa ka w hs).mono ?_
    rintro e w' ⟨rfl, hbb⟩
    have e3 := sq_shape hz hs
    obtain ⟨X0, X1, X2, X3, X4, e1, e2⟩ := res_non rx.toNat rx.toNat (meaV (fun j => xs.getD j 0) rx.toNat) _ w' h
    exact ⟨⟨X0, X1, X2, X3, X4, by rw [← e1, e3], e2⟩, hbb⟩
end Go.Proofs.Ythnblidkbcficaa
