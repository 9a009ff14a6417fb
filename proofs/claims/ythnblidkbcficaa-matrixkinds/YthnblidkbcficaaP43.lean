
/- Trace of any matrix, by matrix and by the document. (Written by mknca.py.) -/
import Derived.Test.YthnblidkbcficaaP42
import Derived.Test.YthnblidkbcficaaP29
namespace Go.Proofs.Ythnblidkbcficaa
open Go.RowKit Go.IntWalk

/-- The sum in order of a diagonal. -/
def trM (f : Nat → Nat) (c : Nat) : Nat → Nat
  | 0 => 0
  | k + 1 => caf .add (trM f c k) (canonOf (f (k * c + k)))
set_option maxRecDepth 4000 in
set_option maxHeartbeats 1000000 in
theorem Trace_ok (c n : Nat) (sa : Option Addr) (ka : Nat) (f : Nat → Nat) (w : World) (ha : Gd w c c sa n ka f) :
    Calls Try.prog 75 #[.agg #[.int .i64 c, .int .i64 c, .slice sa n ka]] w fun e w' => e = .returned (.tuple #[.float .f64 (if finB (trM f c c) = true then trM f c c else 0), .int .i64 (if finB (trM f c c) = true then 0 else 5)]) ∧ Below w.heap.size w w' := by
  have r1 := ar_run .add ok_a
  have HSQ := hid (fun W (hW : Below w.heap.size w W) => square_good c c n sa ka f W (ha.below hW))
  rw [if_pos rfl] at HSQ
  unfold MV at HSQ
  have l1 := ha.1
  have HAT : Hid (∀ W k, Below w.heap.size w W → k < c → Calls Try.prog 91 #[.agg #[.int .i64 c, .int .i64 c, .slice sa n ka], .int .i64 (k : Nat), .int .i64 (k : Nat)] W fun e w' => e = .returned (.float .f64 (f (k * c + k))) ∧ Below W.heap.size W w') := fun W k hW hk => at_fn c sa c n ka k k f W (ha.below hW).2.2.2.1 (by omega) (by omega) (by omega) (by rw [ha.2.2.1]; exact place_lt hk hk)
  have HLT : Hid (∀ k, k < c → f (k * c + k) < 18446744073709551616) := fun k hk => fn_lt ha.2.2.2.1 _ (by rw [ha.2.2.1]; exact place_lt hk hk)
  have HB0 : Hid (Below w.heap.size w (w.alloc (MBox c c sa n ka))) := (Below.refl _ _).alloc (Nat.le_refl _) _
  have HX0 : Hid ((w.alloc (MBox c c sa n ka)).heap[w.heap.size]? = some (MBox c c sa n ka)) := nblkM _ _
  obtain ⟨V, hV⟩ : ∃ V, Hid (w.alloc (MBox c c sa n ka) = V) := ⟨_, rfl⟩
  rw [hV.out] at HB0 HX0
  have hV' := hV.out
  unfold MBox at hV'
  obtain ⟨p0, hp0⟩ : ∃ t, Hid (w.heap.size = t) := ⟨_, rfl⟩
  rw [hp0.out] at HX0
  have hp0' := hp0.out
  obtain ⟨x0, x1, x2⟩ := mcells_of HX0.out
  have HL := hid l1
  obtain ⟨D, hD⟩ : ∃ D, Hid ((if finB (trM f c c) = true then trM f c c else 0) = D) := ⟨_, rfl⟩
  obtain ⟨E, hE⟩ : ∃ D, Hid ((if finB (trM f c c) = true then 0 else 5 : Int) = D) := ⟨_, rfl⟩
  rw [hD.out, hE.out]
  clear ha
  go_enter Try.func75, Try.ntmps75
  go_wp2_with fail
  refine (HSQ.out _ HB0.out).mono ?_
  rintro e w1 ⟨rfl, hb1⟩
  have HB1 := hid (HB0.out.trans (hb1.mono HB0.out.size))
  have HX1 := hid (blkM HX0.out hb1)
  obtain ⟨x0, x1, x2⟩ := mcells_of HX1.out
  clear hb1
  go_wp2_with fail
  go_loopw [5, 14] (fun s i wr => ∃ k s0 : Nat, k ≤ c ∧ s = .float .f64 s0 ∧ i = .int .i64 k ∧ Hid (s0 < 18446744073709551616 ∧ canonOf s0 = trM f c k) ∧ Hid (Below w.heap.size w wr) ∧ Hid (wr.heap[p0]? = some (MBox c c sa n ka))) (fun _ i _ => c - (intOf i).toNat)
  case atStart => exact ⟨0, 0, Nat.zero_le _, rfl, rfl, ⟨by decide, by show canonOf 0 = 0; decide⟩, HB1, HX1⟩
  case round =>
    obtain ⟨k, s0, hk, rfl, rfl, HS, HBW, HXW⟩ := hrel
    obtain ⟨x0, x1, x2⟩ := mcells_of HXW.out
    have l2 := HL.out
    by_cases hlt : k < c
    · have hkI : (k : Int) < (c : Int) := by omega
      have HK := hid hlt
      clear hlt
      go_wp2_with fail
      refine (HAT.out _ k HBW.out HK.out).mono ?_
      rintro e w1 ⟨rfl, hb1⟩
      have HB1 := hid (HBW.out.trans (hb1.mono HBW.out.size))
      have HX1 := hid (blkM HXW.out hb1)
      have HD : Hid (∀ W, arF .add s0 (f (k * c + k)) W < 18446744073709551616 ∧ canonOf (arF .add s0 (f (k * c + k)) W) = trM f c (k + 1)) := fun W => ⟨arF_lt ok_a _ _ _, by rw [canon_ar ok_a _ _ _ HS.out.1 (HLT.out k HK.out), HS.out.2]; rfl⟩
      have HB2 : Hid (Below w.heap.size w (arG .add s0 (f (k * c + k)) w1)) := bl_ar HB1.out _ _ _
      have HX2 : Hid ((arG .add s0 (f (k * c + k)) w1).heap[p0]? = some (MBox c c sa n ka)) := blkM HX1.out (bl_ar (Below.refl _ _) _ _ _)
      obtain ⟨y, hy⟩ : ∃ t, Hid (f (k * c + k) = t) := ⟨_, rfl⟩
      rw [hy.out] at HD HB2 HX2 ⊢
      clear hb1
      go_wp2_with fail
      have hk1 := HK.out
      refine ⟨⟨k + 1, _, by omega, rfl, by go_num, HD.out _, HB2, HX2⟩, ?_⟩
      simp [intOf]; omega
    · obtain rfl : k = c := by omega
      have HZ : Hid (finB s0 = finB (trM f k k) ∧ (finB (trM f k k) = true → s0 = trM f k k)) := by
        refine ⟨by rw [← HS.out.2, finB_canon], fun hh => ?_⟩
        rw [← HS.out.2] at hh ⊢
        exact (canon_fin (by rw [← finB_canon]; exact hh)).symm
      have HAN := hid (fun W => ansN_any s0 HS.out.1 W)
      rw [HZ.out.1] at HAN
      cases hf : finB (trM f k k) with
      | true =>
        have HE := hid (HZ.out.2 hf)
        rw [hf, if_pos rfl, if_pos rfl] at HAN
        have HFF := hid hf
        clear hf
        go_wp2_with fail
        refine (HAN.out _).mono ?_
        rintro e ww ⟨rfl, hw⟩
        rw [hw]
        clear hw
        go_wp2_with fail
        go_ret2
        exact ⟨by have h1 := hD.out; have h2 := hE.out; rw [HFF.out, if_pos rfl] at h1 h2; subst h1 h2; have h := HE.out; subst h; rfl, by first | exact HBW.out | (rw [← hp0.out]; exact HBW.out)⟩
      | false =>
        rw [hf, if_neg (by decide), if_neg (by decide)] at HAN
        have HFF := hid hf
        clear hf
        go_wp2_with fail
        refine (HAN.out _).mono ?_
        rintro e ww ⟨rfl, hw⟩
        rw [hw]
        clear hw
        go_wp2_with fail
        go_ret2
        exact ⟨by have h1 := hD.out; have h2 := hE.out; rw [HFF.out, if_neg (by decide)] at h1 h2; subst h1 h2; rfl, by first | exact HBW.out | (rw [← hp0.out]; exact HBW.out)⟩
set_option maxRecDepth 4000 in
set_option maxHeartbeats 1000000 in
theorem rTrace_ok (c n : Nat) (sa : Option Addr) (ka : Nat) (f : Nat → Nat) (w : World) (ha : Gd w c c sa n ka f) :
    Calls Try.prog 76 #[.agg #[.int .i64 c, .int .i64 c, .slice sa n ka]] w fun e w' => e = .returned (.tuple #[.float .f64 (if finB (trM f c c) = true then trM f c c else 0), .int .i64 (if finB (trM f c c) = true then 0 else 5)]) ∧ Below w.heap.size w w' := by
  have r1 := ar_run .add ok_a
  have hcc : ((c : Int) != (c : Int)) = false := by simp
  have l1 := ha.1
  have HAT : Hid (∀ W k, Below w.heap.size w W → k < c → Calls Try.prog 27 #[.agg #[.int .i64 c, .int .i64 c, .slice sa n ka], .int .i64 (k : Nat), .int .i64 (k : Nat)] W fun e w' => e = .returned (.float .f64 (f (k * c + k))) ∧ Below W.heap.size W w') := fun W k hW hk => rAt_fn c sa c n ka k k f W (ha.below hW).2.2.2.1 (by omega) (by omega) (by omega) (by rw [ha.2.2.1]; exact place_lt hk hk)
  have HLT : Hid (∀ k, k < c → f (k * c + k) < 18446744073709551616) := fun k hk => fn_lt ha.2.2.2.1 _ (by rw [ha.2.2.1]; exact place_lt hk hk)
  have HB0 : Hid (Below w.heap.size w (w.alloc (MBox c c sa n ka))) := (Below.refl _ _).alloc (Nat.le_refl _) _
  have HX0 : Hid ((w.alloc (MBox c c sa n ka)).heap[w.heap.size]? = some (MBox c c sa n ka)) := nblkM _ _
  obtain ⟨V, hV⟩ : ∃ V, Hid (w.alloc (MBox c c sa n ka) = V) := ⟨_, rfl⟩
  rw [hV.out] at HB0 HX0
  have hV' := hV.out
  unfold MBox at hV'
  obtain ⟨p0, hp0⟩ : ∃ t, Hid (w.heap.size = t) := ⟨_, rfl⟩
  rw [hp0.out] at HX0
  have hp0' := hp0.out
  obtain ⟨x0, x1, x2⟩ := mcells_of HX0.out
  have HL := hid l1
  obtain ⟨D, hD⟩ : ∃ D, Hid ((if finB (trM f c c) = true then trM f c c else 0) = D) := ⟨_, rfl⟩
  obtain ⟨E, hE⟩ : ∃ D, Hid ((if finB (trM f c c) = true then 0 else 5 : Int) = D) := ⟨_, rfl⟩
  rw [hD.out, hE.out]
  clear ha
  go_enter Try.func76, Try.ntmps76
  go_wp2_with fail
  go_loopw [4, 5] (fun s i wr => ∃ k s0 : Nat, k ≤ c ∧ s = .float .f64 s0 ∧ i = .int .i64 k ∧ Hid (s0 < 18446744073709551616 ∧ canonOf s0 = trM f c k) ∧ Hid (Below w.heap.size w wr) ∧ Hid (wr.heap[p0]? = some (MBox c c sa n ka))) (fun _ i _ => c - (intOf i).toNat)
  case atStart => exact ⟨0, 0, Nat.zero_le _, rfl, rfl, ⟨by decide, by show canonOf 0 = 0; decide⟩, HB0, HX0⟩
  case round =>
    obtain ⟨k, s0, hk, rfl, rfl, HS, HBW, HXW⟩ := hrel
    obtain ⟨x0, x1, x2⟩ := mcells_of HXW.out
    have l2 := HL.out
    by_cases hlt : k < c
    · have hkI : (k : Int) < (c : Int) := by omega
      have HK := hid hlt
      clear hlt
      go_wp2_with fail
      refine (HAT.out _ k HBW.out HK.out).mono ?_
      rintro e w1 ⟨rfl, hb1⟩
      have HB1 := hid (HBW.out.trans (hb1.mono HBW.out.size))
      have HX1 := hid (blkM HXW.out hb1)
      have HD : Hid (∀ W, arF .add s0 (f (k * c + k)) W < 18446744073709551616 ∧ canonOf (arF .add s0 (f (k * c + k)) W) = trM f c (k + 1)) := fun W => ⟨arF_lt ok_a _ _ _, by rw [canon_ar ok_a _ _ _ HS.out.1 (HLT.out k HK.out), HS.out.2]; rfl⟩
      have HB2 : Hid (Below w.heap.size w (arG .add s0 (f (k * c + k)) w1)) := bl_ar HB1.out _ _ _
      have HX2 : Hid ((arG .add s0 (f (k * c + k)) w1).heap[p0]? = some (MBox c c sa n ka)) := blkM HX1.out (bl_ar (Below.refl _ _) _ _ _)
      obtain ⟨y, hy⟩ : ∃ t, Hid (f (k * c + k) = t) := ⟨_, rfl⟩
      rw [hy.out] at HD HB2 HX2 ⊢
      clear hb1
      go_wp2_with fail
      have hk1 := HK.out
      refine ⟨⟨k + 1, _, by omega, rfl, by go_num, HD.out _, HB2, HX2⟩, ?_⟩
      simp [intOf]; omega
    · obtain rfl : k = c := by omega
      have HZ : Hid (finB s0 = finB (trM f k k) ∧ (finB (trM f k k) = true → s0 = trM f k k)) := by
        refine ⟨by rw [← HS.out.2, finB_canon], fun hh => ?_⟩
        rw [← HS.out.2] at hh ⊢
        exact (canon_fin (by rw [← finB_canon]; exact hh)).symm
      have HAN := hid (fun W => rfinite_any s0 W HS.out.1)
      rw [finB_exp s0 HS.out.1, HZ.out.1] at HAN
      cases hf : finB (trM f k k) with
      | true =>
        have HE := hid (HZ.out.2 hf)
        rw [hf] at HAN
        have HFF := hid hf
        clear hf
        go_wp2_with fail
        refine (HAN.out _).mono ?_
        rintro e ww ⟨rfl, hw⟩
        rw [hw]
        clear hw
        go_wp2_with fail
        go_ret2
        exact ⟨by have h1 := hD.out; have h2 := hE.out; rw [HFF.out, if_pos rfl] at h1 h2; subst h1 h2; have h := HE.out; subst h; rfl, by first | exact HBW.out | (rw [← hp0.out]; exact HBW.out)⟩
      | false =>
        rw [hf] at HAN
        have HFF := hid hf
        clear hf
        go_wp2_with fail
        refine (HAN.out _).mono ?_
        rintro e ww ⟨rfl, hw⟩
        rw [hw]
        clear hw
        go_wp2_with fail
        go_ret2
        exact ⟨by have h1 := hD.out; have h2 := hE.out; rw [HFF.out, if_neg (by decide)] at h1 h2; subst h1 h2; rfl, by first | exact HBW.out | (rw [← hp0.out]; exact HBW.out)⟩
end Go.Proofs.Ythnblidkbcficaa

namespace Go.Proofs.Ythnblidkbcficaa
open Go.RowKit Go.IntWalk

def lowB (c : Nat) (f : Nat → Nat) : Bool := (List.range c).all fun i => (List.range c).all fun j => !(decide (i < j)) || canonOf (f (i * c + j)) == 0
theorem low_iff (c : Nat) (f : Nat → Nat) : lowB c f = true ↔ ∀ i j, i < c → j < c → i < j → canonOf (f (i * c + j)) = 0 := by
  unfold lowB
  rw [List.all_eq_true]
  constructor
  · intro h i j hi hj hij
    have h1 := h i (List.mem_range.2 hi)
    rw [List.all_eq_true] at h1
    have h2 := h1 j (List.mem_range.2 hj)
    simpa [hij] using h2
  · intro h i hi
    rw [List.all_eq_true]
    intro j hj
    by_cases hij : i < j
    · simp [hij, h i j (List.mem_range.1 hi) (List.mem_range.1 hj) hij]
    · simp [hij]
theorem low_no {c : Nat} {f : Nat → Nat} {i j : Nat} (hi : i < c) (hj : j < c) (hij : i < j) (h : ¬ canonOf (f (i * c + j)) = 0) : lowB c f = false := by
  cases hc : lowB c f with
  | false => rfl
  | true => exact absurd ((low_iff c f).1 hc i j hi hj hij) h
set_option maxRecDepth 4000 in
set_option maxHeartbeats 1000000 in
theorem Lower_ok (c n : Nat) (sa : Option Addr) (ka : Nat) (f : Nat → Nat) (w : World) (ha : Gd w c c sa n ka f) :
    Calls Try.prog 67 #[.agg #[.int .i64 c, .int .i64 c, .slice sa n ka]] w fun e w' => e = .returned (.bool (lowB c f)) ∧ Below w.heap.size w w' := by
  have HSQ := hid (fun W (hW : Below w.heap.size w W) => square_good c c n sa ka f W (ha.below hW))
  rw [if_pos rfl] at HSQ
  unfold MV at HSQ
  have l1 := ha.1
  have HAT : Hid (∀ W i j, Below w.heap.size w W → i < c → j < c → Calls Try.prog 91 #[.agg #[.int .i64 c, .int .i64 c, .slice sa n ka], .int .i64 (i : Nat), .int .i64 (j : Nat)] W fun e w' => e = .returned (.float .f64 (f (i * c + j))) ∧ Below W.heap.size W w') := fun W i j hW hi hj => at_fn c sa c n ka i j f W (ha.below hW).2.2.2.1 (by omega) (by omega) (by omega) (by rw [ha.2.2.1]; exact place_lt hi hj)
  have HFX : Hid (∀ i j, i < c → j < c → f (i * c + j) < 18446744073709551616 ∧ canonOf (f (i * c + j)) = f (i * c + j)) := fun i j hi hj => by
    have := gd_fin ha (i * c + j) (place_lt hi hj)
    exact ⟨this.1, canon_fin (by unfold finB; exact decide_eq_true this.2)⟩
  have HB0 : Hid (Below w.heap.size w (w.alloc (MBox c c sa n ka))) := (Below.refl _ _).alloc (Nat.le_refl _) _
  have HX0 : Hid ((w.alloc (MBox c c sa n ka)).heap[w.heap.size]? = some (MBox c c sa n ka)) := nblkM _ _
  obtain ⟨V, hV⟩ : ∃ V, Hid (w.alloc (MBox c c sa n ka) = V) := ⟨_, rfl⟩
  rw [hV.out] at HB0 HX0
  have hV' := hV.out
  unfold MBox at hV'
  obtain ⟨p0, hp0⟩ : ∃ t, Hid (w.heap.size = t) := ⟨_, rfl⟩
  rw [hp0.out] at HX0
  have hp0' := hp0.out
  obtain ⟨x0, x1, x2⟩ := mcells_of HX0.out
  have HL := hid l1
  obtain ⟨D, hD⟩ : ∃ D, Hid (lowB c f = D) := ⟨_, rfl⟩
  rw [hD.out]
  clear ha
  go_enter Try.func67, Try.ntmps67
  go_wp2_with fail
  refine (HSQ.out _ HB0.out).mono ?_
  rintro e w1 ⟨rfl, hb1⟩
  have HB1 := hid (HB0.out.trans (hb1.mono HB0.out.size))
  have HX1 := hid (blkM HX0.out hb1)
  obtain ⟨x0, x1, x2⟩ := mcells_of HX1.out
  clear hb1
  go_wp2_with fail
  go_loopw [10] (fun iv wr => ∃ i : Nat, i ≤ c ∧ iv = .int .i64 i ∧ Hid (∀ a b, a < i → b < c → a < b → canonOf (f (a * c + b)) = 0) ∧ Hid (Below w.heap.size w wr) ∧ Hid (wr.heap[p0]? = some (MBox c c sa n ka))) (fun iv _ => c - (intOf iv).toNat)
  case atStart => exact ⟨0, Nat.zero_le _, rfl, fun a b h => absurd h (Nat.not_lt_zero a), HB1, HX1⟩
  case round =>
    obtain ⟨i, hi, rfl, HP, HBW, HXW⟩ := hrel
    obtain ⟨x0, x1, x2⟩ := mcells_of HXW.out
    have l2 := HL.out
    by_cases hlt : i < c
    · have hiI : (i : Int) < (c : Int) := by omega
      have HI := hid hlt
      clear hlt
      go_wp2_with fail
      go_loopw [15] (fun jv wr2 => ∃ j : Nat, 0 ≤ j ∧ j ≤ c ∧ jv = .int .i64 j ∧ Hid (∀ a b, (a < i ∨ (a = i ∧ b < j)) → b < c → a < b → canonOf (f (a * c + b)) = 0) ∧ Hid (Below w.heap.size w wr2) ∧ Hid (wr2.heap[p0]? = some (MBox c c sa n ka))) (fun jv _ => c - (intOf jv).toNat)
      case atStart => exact ⟨0, Nat.le_refl _, by have := HI.out; omega, by go_num, fun a b hab hb h => HP.out a b (by rcases hab with h1 | ⟨h1, h2⟩ <;> omega) hb h, HBW, HXW⟩
      case round =>
        obtain ⟨j, hj0, hj, rfl, HP2, HBW2, HXW2⟩ := hrel
        obtain ⟨x0, x1, x2⟩ := mcells_of HXW2.out
        by_cases hl2 : j < c
        · have hjI : (j : Int) < (c : Int) := by omega
          have HJ := hid hl2
          have HJ0 := hid hj0
          clear hl2
          by_cases hij : i < j
          · have hijI : (i : Int) < (j : Int) := by omega
            have HIJ := hid hij
            clear hij
            go_wp2_with fail
            refine (HAT.out _ i j HBW2.out HI.out HJ.out).mono ?_
            rintro e w1 ⟨rfl, hb1⟩
            have HB1 := hid (HBW2.out.trans (hb1.mono HBW2.out.size))
            have HX1 := hid (blkM HXW2.out hb1)
            have HV := hid (HFX.out i j HI.out HJ.out)
            by_cases hz : canonOf (f (i * c + j)) = 0
            · have HSM : Hid (∀ W, Calls Try.prog 122 #[.float .f64 (f (i * c + j)), .float .f64 0] W fun e w' => e = .returned (.bool true) ∧ Below W.heap.size W w') := fun W => by
                have := Same_any (f (i * c + j)) 0 W HV.out.1 (by decide)
                rw [show (canonOf (f (i * c + j)) == canonOf 0) = true from by rw [hz]; decide] at this
                exact this
              have HZZ := hid hz
              obtain ⟨y, hy⟩ : ∃ t, Hid (f (i * c + j) = t) := ⟨_, rfl⟩
              rw [hy.out] at HSM ⊢
              clear hb1 hz
              go_wp2_with fail
              refine (HSM.out _).mono ?_
              rintro e w2 ⟨rfl, hb2⟩
              have HB2 := hid (HB1.out.trans (hb2.mono HB1.out.size))
              have HX2 := hid (blkM HX1.out hb2)
              clear hb2
              go_wp2_with fail
              have hj1 := HJ.out
              refine ⟨⟨j + 1, by omega, by omega, by go_num, fun a b hab hb h => ?_, HB2, HX2⟩, ?_⟩
              · by_cases hbj : a = i ∧ b = j
                · obtain ⟨ea, eb⟩ := hbj
                  subst ea eb
                  exact HZZ.out
                · exact HP2.out a b (by rcases hab with h1 | ⟨h1, h2⟩ <;> omega) hb h
              · simp [intOf]; omega
            · have HSM : Hid (∀ W, Calls Try.prog 122 #[.float .f64 (f (i * c + j)), .float .f64 0] W fun e w' => e = .returned (.bool false) ∧ Below W.heap.size W w') := fun W => by
                have := Same_any (f (i * c + j)) 0 W HV.out.1 (by decide)
                rw [show (canonOf (f (i * c + j)) == canonOf 0) = false from by rw [show canonOf 0 = 0 by decide]; simpa using hz] at this
                exact this
              have HZZ := hid hz
              obtain ⟨y, hy⟩ : ∃ t, Hid (f (i * c + j) = t) := ⟨_, rfl⟩
              rw [hy.out] at HSM ⊢
              clear hb1 hz
              go_wp2_with fail
              refine (HSM.out _).mono ?_
              rintro e w2 ⟨rfl, hb2⟩
              have HB2 := hid (HB1.out.trans (hb2.mono HB1.out.size))
              have HX2 := hid (blkM HX1.out hb2)
              clear hb2
              go_wp2_with fail
              have HT : Hid (lowB c f = false) := low_no HI.out HJ.out HIJ.out HZZ.out
              go_ret
              exact ⟨by have h1 := hD.out; rw [HT.out] at h1; subst h1; rfl, by first | exact HB2.out | (rw [← hp0.out]; exact HB2.out)⟩
          · have hijI : ¬ (i : Int) < (j : Int) := by omega
            have HIJ := hid hij
            clear hij
            go_wp2_with fail
            have hj1 := HJ.out
            refine ⟨⟨j + 1, by omega, by omega, by go_num, fun a b hab hb h => ?_, HBW2, HXW2⟩, ?_⟩
            · by_cases hbj : a = i ∧ b = j
              · obtain ⟨ea, eb⟩ := hbj
                subst ea eb
                exact absurd h HIJ.out
              · exact HP2.out a b (by rcases hab with h1 | ⟨h1, h2⟩ <;> omega) hb h
            · simp [intOf]; omega

        · obtain rfl : j = c := by omega
          go_wp2_with fail
          have hi1 := HI.out
          refine ⟨⟨i + 1, by omega, by go_num, fun a b ha hb h => HP2.out a b (by omega) hb h, HBW2, HXW2⟩, ?_⟩
          simp [intOf]; omega
    · obtain rfl : i = c := by omega
      have HT : Hid (lowB i f = true) := (low_iff i f).2 (fun a b ha hb h => HP.out a b ha hb h)
      go_wp2_with fail
      go_ret
      exact ⟨by have h1 := hD.out; rw [HT.out] at h1; subst h1; rfl, by first | exact HBW.out | (rw [← hp0.out]; exact HBW.out)⟩
set_option maxRecDepth 4000 in
set_option maxHeartbeats 1000000 in
theorem rLower_ok (c n : Nat) (sa : Option Addr) (ka : Nat) (f : Nat → Nat) (w : World) (ha : Gd w c c sa n ka f) :
    Calls Try.prog 68 #[.agg #[.int .i64 c, .int .i64 c, .slice sa n ka]] w fun e w' => e = .returned (.bool (lowB c f)) ∧ Below w.heap.size w w' := by
  have h1 := f64bits
  have hcc : ((c : Int) != (c : Int)) = false := by simp
  have HCK := hid (fun W (hW : Below w.heap.size w W) => rCheck_any c c sa n ka _ W ((ha.below hW).2.2.2.1.fl) (by have := ha.le; omega))
  rw [ha.chk] at HCK
  have l1 := ha.1
  have HAT : Hid (∀ W i j, Below w.heap.size w W → i < c → j < c → Calls Try.prog 27 #[.agg #[.int .i64 c, .int .i64 c, .slice sa n ka], .int .i64 (i : Nat), .int .i64 (j : Nat)] W fun e w' => e = .returned (.float .f64 (f (i * c + j))) ∧ Below W.heap.size W w') := fun W i j hW hi hj => rAt_fn c sa c n ka i j f W (ha.below hW).2.2.2.1 (by omega) (by omega) (by omega) (by rw [ha.2.2.1]; exact place_lt hi hj)
  have HFX : Hid (∀ i j, i < c → j < c → f (i * c + j) < 18446744073709551616 ∧ canonOf (f (i * c + j)) = f (i * c + j)) := fun i j hi hj => by
    have := gd_fin ha (i * c + j) (place_lt hi hj)
    exact ⟨this.1, canon_fin (by unfold finB; exact decide_eq_true this.2)⟩
  have HB0 : Hid (Below w.heap.size w (w.alloc (MBox c c sa n ka))) := (Below.refl _ _).alloc (Nat.le_refl _) _
  have HX0 : Hid ((w.alloc (MBox c c sa n ka)).heap[w.heap.size]? = some (MBox c c sa n ka)) := nblkM _ _
  obtain ⟨V, hV⟩ : ∃ V, Hid (w.alloc (MBox c c sa n ka) = V) := ⟨_, rfl⟩
  rw [hV.out] at HB0 HX0
  have hV' := hV.out
  unfold MBox at hV'
  obtain ⟨p0, hp0⟩ : ∃ t, Hid (w.heap.size = t) := ⟨_, rfl⟩
  rw [hp0.out] at HX0
  have hp0' := hp0.out
  obtain ⟨x0, x1, x2⟩ := mcells_of HX0.out
  have HL := hid l1
  obtain ⟨D, hD⟩ : ∃ D, Hid (lowB c f = D) := ⟨_, rfl⟩
  rw [hD.out]
  clear ha
  go_enter Try.func68, Try.ntmps68
  go_wp2_with fail
  refine (HCK.out _ HB0.out).mono ?_
  rintro e w1 ⟨rfl, hb1⟩
  have HB1 := hid (HB0.out.trans (hb1.mono HB0.out.size))
  have HX1 := hid (blkM HX0.out hb1)
  obtain ⟨x0, x1, x2⟩ := mcells_of HX1.out
  clear hb1
  go_wp2_with fail
  go_loopw [3] (fun iv wr => ∃ i : Nat, i ≤ c ∧ iv = .int .i64 i ∧ Hid (∀ a b, a < i → b < c → a < b → canonOf (f (a * c + b)) = 0) ∧ Hid (Below w.heap.size w wr) ∧ Hid (wr.heap[p0]? = some (MBox c c sa n ka))) (fun iv _ => c - (intOf iv).toNat)
  case atStart => exact ⟨0, Nat.zero_le _, rfl, fun a b h => absurd h (Nat.not_lt_zero a), HB1, HX1⟩
  case round =>
    obtain ⟨i, hi, rfl, HP, HBW, HXW⟩ := hrel
    obtain ⟨x0, x1, x2⟩ := mcells_of HXW.out
    have l2 := HL.out
    by_cases hlt : i < c
    · have hiI : (i : Int) < (c : Int) := by omega
      have HI := hid hlt
      clear hlt
      go_wp2_with fail
      go_loopw [4] (fun jv wr2 => ∃ j : Nat, (i + 1) ≤ j ∧ j ≤ c ∧ jv = .int .i64 j ∧ Hid (∀ a b, (a < i ∨ (a = i ∧ b < j)) → b < c → a < b → canonOf (f (a * c + b)) = 0) ∧ Hid (Below w.heap.size w wr2) ∧ Hid (wr2.heap[p0]? = some (MBox c c sa n ka))) (fun jv _ => c - (intOf jv).toNat)
      case atStart => exact ⟨(i + 1), Nat.le_refl _, by have := HI.out; omega, by go_num, fun a b hab hb h => HP.out a b (by rcases hab with h1 | ⟨h1, h2⟩ <;> omega) hb h, HBW, HXW⟩
      case round =>
        obtain ⟨j, hj0, hj, rfl, HP2, HBW2, HXW2⟩ := hrel
        obtain ⟨x0, x1, x2⟩ := mcells_of HXW2.out
        by_cases hl2 : j < c
        · have hjI : (j : Int) < (c : Int) := by omega
          have HJ := hid hl2
          have HJ0 := hid hj0
          clear hl2
          have HIJ : Hid (i < j) := by have := HJ0.out; show _ < _; omega
          go_wp2_with fail
          refine (HAT.out _ i j HBW2.out HI.out HJ.out).mono ?_
          rintro e w1 ⟨rfl, hb1⟩
          have HB1 := hid (HBW2.out.trans (hb1.mono HBW2.out.size))
          have HX1 := hid (blkM HXW2.out hb1)
          have HV := hid (HFX.out i j HI.out HJ.out)
          by_cases hz : canonOf (f (i * c + j)) = 0
          · have hxz : (((f (i * c + j) : Nat) : Int) != 0) = false := by
              rw [HV.out.2] at hz
              simp [hz]
            have HZZ := hid hz
            obtain ⟨y, hy⟩ : ∃ t, Hid (f (i * c + j) = t) := ⟨_, rfl⟩
            rw [hy.out] at hxz ⊢
            clear hb1 hz
            go_wp2_with fail
            have hj1 := HJ.out
            refine ⟨⟨j + 1, by omega, by omega, by go_num, fun a b hab hb h => ?_, HB1, HX1⟩, ?_⟩
            · by_cases hbj : a = i ∧ b = j
              · obtain ⟨ea, eb⟩ := hbj
                subst ea eb
                exact HZZ.out
              · exact HP2.out a b (by rcases hab with h1 | ⟨h1, h2⟩ <;> omega) hb h
            · simp [intOf]; omega
          · have hxz : (((f (i * c + j) : Nat) : Int) != 0) = true := by
              rw [HV.out.2] at hz
              simpa using hz
            have HZZ := hid hz
            obtain ⟨y, hy⟩ : ∃ t, Hid (f (i * c + j) = t) := ⟨_, rfl⟩
            rw [hy.out] at hxz ⊢
            clear hb1 hz
            go_wp2_with fail
            have HT : Hid (lowB c f = false) := low_no HI.out HJ.out HIJ.out HZZ.out
            go_ret
            exact ⟨by have h1 := hD.out; rw [HT.out] at h1; subst h1; rfl, by first | exact HB1.out | (rw [← hp0.out]; exact HB1.out)⟩

        · obtain rfl : j = c := by omega
          go_wp2_with fail
          have hi1 := HI.out
          refine ⟨⟨i + 1, by omega, by go_num, fun a b ha hb h => HP2.out a b (by omega) hb h, HBW2, HXW2⟩, ?_⟩
          simp [intOf]; omega
    · obtain rfl : i = c := by omega
      have HT : Hid (lowB i f = true) := (low_iff i f).2 (fun a b ha hb h => HP.out a b ha hb h)
      go_wp2_with fail
      go_ret
      exact ⟨by have h1 := hD.out; rw [HT.out] at h1; subst h1; rfl, by first | exact HBW.out | (rw [← hp0.out]; exact HBW.out)⟩
end Go.Proofs.Ythnblidkbcficaa
