
/- root's rowOf, checkDiagonal and Check. (Written by mkrtb.py.) -/
import Derived.Test.YtglgjkhfoajflaaP36
namespace Go.Proofs.Ytglgjkhfoajflaa
open Go.RowKit Go.IntWalk

set_option maxRecDepth 4000 in
set_option maxHeartbeats 1000000 in
/-- A piece of a good square matrix. -/
theorem rowOf_some (c m ka i b off : Nat) (w : World) (hm : m = c * c) (hc : c ≤ 12) (hi : i < c) (hk : m ≤ ka) (hk2 : ka ≤ 9223372036854775807) :
    Calls Try.prog 53 #[.agg #[.int .i64 c, .int .i64 c, .slice (some ⟨b, off, none⟩) m ka], .int .i64 i] w fun e w' => e = .returned (.slice (some ⟨b, off + i * c, none⟩) c (ka - i * c)) ∧ Below w.heap.size w w' := by
  have HA0 : Hid ((w.alloc (MBox c c (some ⟨b, off, none⟩) m ka)).heap[w.heap.size]? = some (MBox c c (some ⟨b, off, none⟩) m ka)) := nblkM _ _
  have HB : Hid (Below w.heap.size w (w.alloc (MBox c c (some ⟨b, off, none⟩) m ka))) := (Below.refl _ _).alloc (Nat.le_refl _) _
  obtain ⟨V, hV⟩ : ∃ V, Hid (w.alloc (MBox c c (some ⟨b, off, none⟩) m ka) = V) := ⟨_, rfl⟩
  rw [hV.out] at HA0 HB
  have hV' := hV.out
  obtain ⟨x0, x1, x2⟩ := mcells_of HA0.out
  unfold MBox at hV'
  have h1 : (i + 1) * c ≤ c * c := Nat.mul_le_mul_right _ hi
  have h2 : c * c ≤ 144 := Nat.mul_le_mul hc hc
  have h3 : (i + 1) * c = i * c + c := by rw [Nat.add_mul, Nat.one_mul]
  obtain ⟨p, hp⟩ : ∃ t, i * c = t := ⟨_, rfl⟩
  rw [hp] at h3 ⊢
  have e1 : (i : Int) * (c : Int) = (p : Int) := by rw [← hp]; simp
  have e2 : ((i : Int) + 1) * (c : Int) = ((p + c : Nat) : Int) := by rw [← h3]; simp
  have w1 : IntKind.i64.wrap ((i : Int) + 1) = (i : Int) + 1 := IntWalk.i64_in _ (by omega)
  have w2 : IntKind.i64.wrap (p : Int) = (p : Int) := IntWalk.i64_in _ (by omega)
  have w3 : IntKind.i64.wrap ((p + c : Nat) : Int) = ((p + c : Nat) : Int) := IntWalk.i64_in _ (by omega)
  have l1 : p + c ≤ ka := by omega
  have l2 : p + c ≤ m := by omega
  clear hp h1 h2 h3 hm
  go_enter Try.func53, Try.ntmps53
  go_wp2_with fail
  go_ret
  rw [show p + c - p = c by omega]
  exact ⟨rfl, HB.out⟩
/-- Is a number not above 0? -/
def leB (x : Nat) : Bool := (FloatKind.f64.format.order x 0 == some .lt) || (FloatKind.f64.format.order x 0 == some .eq)
def diagB (c : Nat) (f : Nat → Nat) : Bool := (List.range c).all fun i => !leB (f (i * c + i))
theorem diag_iff (c : Nat) (f : Nat → Nat) : diagB c f = true ↔ ∀ i, i < c → leB (f (i * c + i)) = false := by
  unfold diagB
  rw [List.all_eq_true]
  constructor
  · intro h i hi
    have := h i (List.mem_range.2 hi)
    simpa using this
  · intro h i hi
    rw [h i (List.mem_range.1 hi)]; rfl
theorem le_iff (x : Nat) : leB x = false ↔ (FloatKind.f64.format.order x 0 == some .lt) = false ∧ (FloatKind.f64.format.order x 0 == some .eq) = false := by
  unfold leB
  rw [Bool.or_eq_false_iff]
set_option maxRecDepth 4000 in
set_option maxHeartbeats 2000000 in
theorem cdiag_any (c m ka : Nat) (sa : Option Addr) (f : Nat → Nat) (w : World) (hg : Gd w c c sa m ka f) :
    Calls Try.prog 48 #[.agg #[.int .i64 c, .int .i64 c, .slice sa m ka]] w fun e w' => e = .returned (.int .i64 (if diagB c f = true then 0 else 93)) ∧ Below w.heap.size w w' := by
  have HA0 : Hid ((w.alloc (MBox c c sa m ka)).heap[w.heap.size]? = some (MBox c c sa m ka)) := nblkM _ _
  have HB : Hid (Below w.heap.size w (w.alloc (MBox c c sa m ka))) := (Below.refl _ _).alloc (Nat.le_refl _) _
  have HG := hid hg
  have hc12 := hg.1
  obtain ⟨V, hV⟩ : ∃ V, Hid (w.alloc (MBox c c sa m ka) = V) := ⟨_, rfl⟩
  rw [hV.out] at HA0 HB
  have hV' := hV.out
  obtain ⟨x0, x1, x2⟩ := mcells_of HA0.out
  unfold MBox at hV'
  have HD := hid (diag_iff c f)
  obtain ⟨E, hE⟩ : ∃ t, Hid ((if diagB c f = true then (0 : Int) else 93) = t) := ⟨_, rfl⟩
  rw [hE.out]
  clear hg
  go_enter Try.func48, Try.ntmps48
  go_wp2_with fail
  go_loopw [6] (fun iv wr => ∃ i : Nat, i ≤ c ∧ iv = .int .i64 i ∧ Hid (∀ j, j < i → leB (f (j * c + j)) = false) ∧ Hid (Below V.heap.size V wr)) (fun iv _ => c - (intOf iv).toNat)
  case atStart => exact ⟨0, Nat.zero_le _, rfl, fun j hj => absurd hj (Nat.not_lt_zero _), Below.refl _ _⟩
  case round =>
    obtain ⟨i, hi, rfl, HP, HW⟩ := hrel
    have hA := blkM HA0.out HW.out
    obtain ⟨x0, x1, x2⟩ := mcells_of hA
    clear hA
    by_cases hlt : i < c
    · have hiI : (i : Int) < (c : Int) := by omega
      have hi0 : (0 : Int) ≤ (i : Int) := by omega
      have hwi : IntKind.i64.wrap ((i : Int) + 1) = (i : Int) + 1 := IntWalk.i64_in _ (by omega)
      obtain ⟨b, off, hsa, hb1, hb2, hb3, hb4⟩ : ∃ b off, sa = some ⟨b, off, none⟩ ∧ b < w.heap.size ∧ m ≤ ka ∧ ka ≤ 9223372036854775807 ∧ ∀ j, j < m → w.cell? ⟨b, off + j, none⟩ = some (.float .f64 (f j)) := by
        rcases HG.out.2.2.2.1 with ⟨_, h0, _⟩ | ⟨b, off, h1, h2, h3, h4, h5⟩
        · have h1 := HG.out.2.2.1
          have : 0 < c * c := Nat.mul_pos (by omega) (by omega)
          omega
        · exact ⟨b, off, h1, h2, h3, h4, fun j hj => (h5 j hj).1⟩
      subst hsa
      have HRO := hid (fun W => rowOf_some c m ka i b off W HG.out.2.2.1 hc12 hlt hb2 hb3)
      have hcell : ∀ W, Below wr.heap.size wr W → W.cell? ⟨b, off + i * c + i, none⟩ = some (.float .f64 (f (i * c + i))) := fun W hW => by
        have h1 := ((HB.out.trans (HW.out.mono HB.out.size)).trans (hW.mono ((HB.out.trans (HW.out.mono HB.out.size)).size))).cell (p := ⟨b, off + (i * c + i), none⟩) hb1
        rw [Nat.add_assoc]
        exact h1.trans (hb4 _ (by have := HG.out.2.2.1; rw [this]; exact place_lt hlt hlt))
      have HCL := hid hcell
      obtain ⟨x, hx⟩ : ∃ t, Hid (f (i * c + i) = t) := ⟨_, rfl⟩
      rw [hx.out] at HCL
      clear hcell hb1 hb2 hb3 hb4
      by_cases hle : leB x = true
      · have HBAD : Hid (E = 93) := by
          show E = 93
          rw [← hE.out, if_neg (fun h => by have := HD.out.1 h i hlt; rw [hx.out, hle] at this; cases this)]
        unfold leB at hle
        go_wp2_with fail
        refine (HRO.out _).mono ?_
        rintro e w2 ⟨rfl, hb⟩
        have HW2 := hid (HW.out.trans (hb.mono HW.out.size))
        have hc0 := HCL.out _ hb
        clear hb
        by_cases h1 : FloatKind.f64.format.order x 0 = some .lt
        · go_wp2_with fail
          go_ret
          exact ⟨by rw [HBAD.out]; rfl, HB.out.trans (HW2.out.mono HB.out.size)⟩
        · have h2 : FloatKind.f64.format.order x 0 = some .eq := by
            rcases Bool.or_eq_true_iff.1 hle with h | h
            · exact absurd (by simpa using h) h1
            · simpa using h
          go_wp2_with fail
          go_ret
          exact ⟨by rw [HBAD.out]; rfl, HB.out.trans (HW2.out.mono HB.out.size)⟩
      · have hle' : leB x = false := by simpa using hle
        obtain ⟨l1, l2⟩ := (le_iff x).1 hle'
        have HNX : Hid (∀ j, j < i + 1 → leB (f (j * c + j)) = false) := fun j hj => by
          by_cases e : j = i
          · subst e; rw [hx.out]; exact hle'
          · exact HP.out j (by omega)
        clear hle hle'
        go_wp2_with fail
        refine (HRO.out _).mono ?_
        rintro e w2 ⟨rfl, hb⟩
        have HW2 := hid (HW.out.trans (hb.mono HW.out.size))
        have hc0 := HCL.out _ hb
        clear hb
        go_wp2_with fail
        go_roundw
        case rel => exact ⟨i + 1, by omega, by go_num, HNX, HW2⟩
        case measure => simp [intOf]; omega
    · obtain rfl : i = c := by omega
      have HOK : Hid (E = 0) := by
        show E = 0
        rw [← hE.out, if_pos (HD.out.2 HP.out)]
      go_wp2_with fail
      go_ret
      exact ⟨by rw [HOK.out]; rfl, HB.out.trans (HW.out.mono HB.out.size)⟩
end Go.Proofs.Ytglgjkhfoajflaa

namespace Go.Proofs.Ytglgjkhfoajflaa
open Go.RowKit Go.IntWalk

/-- Why a root may not be. -/
def rootE (zs : List Nat) (k : Nat) (r c : Int) (n : Nat) (xs : List Nat) : Int := if sqrE r c n xs (k : Int) = 0 then (if finM zs = true then (if lowT r c n xs = true then (if diagB r.toNat (fun j => xs.getD j 0) = true then 0 else 93) else 93) else 4) else sqrE r c n xs (k : Int)
theorem sqr_zero {r c : Int} {n : Nat} {xs : List Nat} {k : Nat} (h : sqrE r c n xs (k : Int) = 0) : r = (k : Int) ∧ c = (k : Int) ∧ chkM r c n xs = 0 := by
  unfold sqrE at h
  by_cases h1 : tallE r c n xs (k : Int) = 0
  · rw [if_pos h1] at h
    unfold tallE at h1
    by_cases h2 : chkM r c n xs = 0
    · rw [if_pos h2] at h1
      by_cases h3 : r = (k : Int)
      · by_cases h4 : c = (k : Int)
        · exact ⟨h3, h4, h2⟩
        · rw [if_neg h4] at h; exact absurd h (by decide)
      · rw [if_neg h3] at h1; exact absurd h1 (by decide)
    · rw [if_neg h2] at h1; exact absurd h1 h2
  · rw [if_neg h1] at h; exact absurd h h1
theorem gd_own_r {r c n : Nat} {sa : Option Addr} {ka : Nat} {xs : List Nat} {w : World} (h : FlM w sa n ka xs) (hz : chkM (r : Int) (c : Int) n xs = 0) : Gd w r c sa n ka (fun j => xs.getD j 0) := by
  obtain ⟨a, b, e1, e2, hg⟩ := gd_of h hz
  obtain rfl : r = a := by omega
  obtain rfl : c = b := by omega
  exact hg
set_option maxRecDepth 4000 in
set_option maxHeartbeats 2000000 in
theorem rcheck_any (xa : Option Addr) (k kx : Nat) (zs : List Nat) (r c : Int) (sa : Option Addr) (n ka : Nat) (xs : List Nat) (w : World) (hx : FlM w xa k kx zs) (hk : k ≤ 17592186043904) (ha : FlM w sa n ka xs) (hn : n ≤ 17592186043904) :
    Calls Try.prog 17 #[RV xa k kx r c sa n ka] w fun e w' => e = .returned (.int .i64 (rootE zs k r c n xs)) ∧ Below w.heap.size w w' := by
  have HA0 : Hid ((w.alloc (RBox xa k kx r c sa n ka)).heap[w.heap.size]? = some (RBox xa k kx r c sa n ka)) := nblkM _ _
  have HB : Hid (Below w.heap.size w (w.alloc (RBox xa k kx r c sa n ka))) := (Below.refl _ _).alloc (Nat.le_refl _) _
  have HS := hid (fun W (hW : Below w.heap.size w W) => sqr_any r c sa n ka xs (k : Int) W (ha.below hW) hn)
  have HX := hid (fun W (hW : Below w.heap.size w W) => FinM_any xa k kx zs W (hx.below hW) hk)
  have HL := hid (fun W (hW : Below w.heap.size w W) => Lower_tot r c sa n ka xs W (ha.below hW) hn)
  have HAF := hid ha
  obtain ⟨V, hV⟩ : ∃ V, Hid (w.alloc (RBox xa k kx r c sa n ka) = V) := ⟨_, rfl⟩
  rw [hV.out] at HA0 HB
  have hV' := hV.out
  obtain ⟨x0, x1, x2, x3⟩ := rcells_of HA0.out
  unfold RBox at hV'
  unfold RV
  unfold MV at HS
  unfold rootE
  obtain ⟨SE, hSE⟩ : ∃ t, Hid (sqrE r c n xs (k : Int) = t) := ⟨_, rfl⟩
  obtain ⟨FX, hFX⟩ : ∃ t, Hid (finM zs = t) := ⟨_, rfl⟩
  obtain ⟨LT, hLT⟩ : ∃ t, Hid (lowT r c n xs = t) := ⟨_, rfl⟩
  rw [hSE.out] at HS ⊢
  rw [hFX.out] at HX ⊢
  rw [hLT.out] at HL ⊢
  clear ha hx hn hk
  by_cases h1 : SE = 0
  · rw [if_pos h1]
    subst h1
    cases FX with
    | false =>
      rw [if_neg (by decide)]
      go_enter Try.func17, Try.ntmps17
      go_wp2_with fail
      refine (HS.out _ HB.out).mono ?_
      rintro e w1 ⟨rfl, hb⟩
      have HB1 := hid (HB.out.trans (hb.mono HB.out.size))
      obtain ⟨x0, x1, x2, x3⟩ := rcells_of (blkM HA0.out hb)
      have HA1 := hid (blkM HA0.out hb)
      clear hb
      go_wp2_with fail
      refine (HX.out _ HB1.out).mono ?_
      rintro e w2 ⟨rfl, hb⟩
      have HB2 := hid (HB1.out.trans (hb.mono HB1.out.size))
      obtain ⟨x0, x1, x2, x3⟩ := rcells_of (blkM HA1.out hb)
      have HA2 := hid (blkM HA1.out hb)
      clear hb
      go_wp2_with fail
      go_ret
      exact ⟨rfl, HB2.out⟩
    | true =>
      rw [if_pos rfl]
      cases LT with
      | false =>
        rw [if_neg (by decide)]
        go_enter Try.func17, Try.ntmps17
        go_wp2_with fail
        refine (HS.out _ HB.out).mono ?_
        rintro e w1 ⟨rfl, hb⟩
        have HB1 := hid (HB.out.trans (hb.mono HB.out.size))
        obtain ⟨x0, x1, x2, x3⟩ := rcells_of (blkM HA0.out hb)
        have HA1 := hid (blkM HA0.out hb)
        clear hb
        go_wp2_with fail
        refine (HX.out _ HB1.out).mono ?_
        rintro e w2 ⟨rfl, hb⟩
        have HB2 := hid (HB1.out.trans (hb.mono HB1.out.size))
        obtain ⟨x0, x1, x2, x3⟩ := rcells_of (blkM HA1.out hb)
        have HA2 := hid (blkM HA1.out hb)
        clear hb
        go_wp2_with fail
        refine (HL.out _ HB2.out).mono ?_
        rintro e w3 ⟨rfl, hb⟩
        have HB3 := hid (HB2.out.trans (hb.mono HB2.out.size))
        obtain ⟨x0, x1, x2, x3⟩ := rcells_of (blkM HA2.out hb)
        have HA3 := hid (blkM HA2.out hb)
        clear hb
        go_wp2_with fail
        go_ret
        exact ⟨rfl, HB3.out⟩
      | true =>
        rw [if_pos rfl]
        obtain ⟨q1, q2, q3⟩ := sqr_zero (hSE.out)
        subst q1
        subst q2
        rw [Int.toNat_natCast]
        have HD := hid (fun W (hW : Below w.heap.size w W) => cdiag_any k n ka sa (fun j => xs.getD j 0) W (gd_own_r (HAF.out.below hW) q3))
        obtain ⟨DE, hDE⟩ : ∃ t, Hid ((if diagB k (fun j => xs.getD j 0) = true then (0 : Int) else 93) = t) := ⟨_, rfl⟩
        rw [hDE.out] at HD ⊢
        clear q3
        go_enter Try.func17, Try.ntmps17
        go_wp2_with fail
        refine (HS.out _ HB.out).mono ?_
        rintro e w1 ⟨rfl, hb⟩
        have HB1 := hid (HB.out.trans (hb.mono HB.out.size))
        obtain ⟨x0, x1, x2, x3⟩ := rcells_of (blkM HA0.out hb)
        have HA1 := hid (blkM HA0.out hb)
        clear hb
        go_wp2_with fail
        refine (HX.out _ HB1.out).mono ?_
        rintro e w2 ⟨rfl, hb⟩
        have HB2 := hid (HB1.out.trans (hb.mono HB1.out.size))
        obtain ⟨x0, x1, x2, x3⟩ := rcells_of (blkM HA1.out hb)
        have HA2 := hid (blkM HA1.out hb)
        clear hb
        go_wp2_with fail
        refine (HL.out _ HB2.out).mono ?_
        rintro e w3 ⟨rfl, hb⟩
        have HB3 := hid (HB2.out.trans (hb.mono HB2.out.size))
        obtain ⟨x0, x1, x2, x3⟩ := rcells_of (blkM HA2.out hb)
        have HA3 := hid (blkM HA2.out hb)
        clear hb
        go_wp2_with fail
        refine (HD.out _ HB3.out).mono ?_
        rintro e w4 ⟨rfl, hb⟩
        have HB4 := hid (HB3.out.trans (hb.mono HB3.out.size))
        obtain ⟨x0, x1, x2, x3⟩ := rcells_of (blkM HA3.out hb)
        have HA4 := hid (blkM HA3.out hb)
        clear hb
        go_wp2_with fail
        go_ret
        exact ⟨rfl, HB4.out⟩
  · rw [if_neg h1]
    have hne : (SE != 0) = true := by simpa using h1
    clear h1
    go_enter Try.func17, Try.ntmps17
    go_wp2_with fail
    refine (HS.out _ HB.out).mono ?_
    rintro e w1 ⟨rfl, hb⟩
    have HB1 := hid (HB.out.trans (hb.mono HB.out.size))
    obtain ⟨x0, x1, x2, x3⟩ := rcells_of (blkM HA0.out hb)
    have HA1 := hid (blkM HA0.out hb)
    clear hb
    go_wp2_with fail
    go_ret
    exact ⟨rfl, HB1.out⟩
/-- What a root that may be is. -/
theorem rootE_zero {zs : List Nat} {k : Nat} {r c : Int} {n : Nat} {xs : List Nat} (h : rootE zs k r c n xs = 0) : r = (k : Int) ∧ c = (k : Int) ∧ chkM r c n xs = 0 ∧ finM zs = true ∧ lowT r c n xs = true ∧ diagB k (fun j => xs.getD j 0) = true := by
  unfold rootE at h
  by_cases h1 : sqrE r c n xs (k : Int) = 0
  · rw [if_pos h1] at h
    obtain ⟨e1, e2, e3⟩ := sqr_zero h1
    by_cases h2 : finM zs = true
    · rw [if_pos h2] at h
      by_cases h3 : lowT r c n xs = true
      · rw [if_pos h3] at h
        by_cases h4 : diagB r.toNat (fun j => xs.getD j 0) = true
        · rw [e1, Int.toNat_natCast] at h4
          exact ⟨e1, e2, e3, h2, h3, h4⟩
        · rw [if_neg h4] at h; exact absurd h (by decide)
      · rw [if_neg h3] at h; exact absurd h (by decide)
    · rw [if_neg h2] at h; exact absurd h (by decide)
  · rw [if_neg h1] at h; exact absurd h h1
end Go.Proofs.Ytglgjkhfoajflaa
