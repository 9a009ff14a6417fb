
/- What the document's Div does where a number is divided itself by one word. -/
import Derived.Test.YtfdphegiafccpaaP36
import Derived.Test.YtfdphegiafccpaaP7
namespace Go.Proofs.Ytfdphegiafccpaa
open Go.RowKit Go.IntWalk

theorem one_word (L : List Nat) (d : Nat) (hc : CanL L) (h : natL L = d) (h0 : 0 < d) (hd : d < 4294967296) : L = [d] := by
  have h1 := len_small L 1 hc (by rw [h]; simpa using hd)
  match L, h1, h with
  | [], _, h =>
    have : natL [] = 0 := rfl
    omega
  | [x], _, h =>
    rw [natL_one] at h
    rw [h]
theorem num_word {w : World} {y d bd : Nat} (h : NumAt w y (d : Int) bd) (h0 : 0 < d) (hd : d < 4294967296) : BigAt w y false [d] := by
  obtain ⟨L, e1, e2, e3⟩ := num_pos h
  obtain ⟨a, cap, ho, hcap, hm, hdg, hc, hn⟩ := id e3
  rw [one_word L d hc e1 h0 hd] at e3
  exact e3
/-- The words of the quotient, told. -/
theorem div_val (neg : Bool) (n d q : Nat) (hd : 0 < d) (hq : q = if neg = true ∧ n % d ≠ 0 then n / d + 1 else n / d) : (if (neg && decide (q ≠ 0)) = true then -(q : Int) else (q : Int)) = (if neg = true then -(n : Int) else (n : Int)) / (d : Int) := by
  cases neg
  · simp only [Bool.false_and, Bool.false_eq_true, false_and, if_false] at *
    rw [hq, Int.natCast_ediv]
  · simp only [Bool.true_and, true_and, if_true] at *
    rw [neg_floor n d hd]
    have e : (if decide (q ≠ 0) = true then -(q : Int) else (q : Int)) = -(q : Int) := by
      by_cases h : q = 0
      · rw [h]
        rfl
      · rw [if_pos (by simpa using h)]
    rw [e, hq]
    by_cases h : n % d = 0
    · rw [if_pos h, if_neg (by simp [h])]
    · rw [if_neg h, if_pos h]
      omega
theorem mag_build (W : World) (x : Nat) (T : TypeId) : MagAt (W.alloc (.cells #[.int .u32 x] T)) (some ⟨W.heap.size, 0, none⟩) [x] := fun i hi => by
  have hi0 : i = 0 := by simp at hi; omega
  subst hi0
  exact ⟨W.heap.size, 0, rfl, by simp, by simp [go_sem]⟩
theorem MagIs.draw {v bd : Nat} {L' : List Nat} {a' : Option Addr} {cap' : Nat} {w : World} (h : MagIs v bd L' a' cap' w) : MagIs v bd L' a' cap' w.drew := by
  obtain ⟨m1, m2, m3, m4, m5, m6⟩ := h
  exact ⟨m1, m2, m3.below (Below.refl _ _).drew, m4, m5, m6⟩
set_option maxRecDepth 2000 in
set_option maxHeartbeats 4000000 in
theorem Div_self (z y d : Nat) (neg : Bool) (A : List Nat) (w : World) (hz : ZOk z w w) (hx : BigAt w z neg A) (hy : BigAt w y false [d]) (hA : A.length ≤ 900000) (hd0 : 0 < d) (hd : d < 4294967296) :
    Calls Try.prog 36 #[.pointer (some ⟨z, 0, none⟩), .pointer (some ⟨z, 0, none⟩), .pointer (some ⟨y, 0, none⟩)] w fun r w' => r = .returned (.pointer (some ⟨z, 0, none⟩)) ∧ PutZ z (intL neg A / (d : Int)) (A.length + 1) w w' := by
  obtain ⟨a, ca, ho, hcap, hm, hdg, hc, hneg⟩ := hx
  obtain ⟨c0, c1, hf, hlt⟩ := int_cells ho
  obtain ⟨b, cb, ho', hcap', hm', hdg', hc', hneg'⟩ := hy
  obtain ⟨c0', c1', hf', hlt'⟩ := int_cells ho'
  have HO : Hid (∀ W, Hid (Below w.heap.size w W) → Calls Try.prog 45 #[.slice a A.length ca, .slice b 1 cb] W fun r w' => (∃ L' a' cap' m am cm, r = .returned (.tuple #[.slice a' (List.length L') cap', .slice am m cm]) ∧ Hid (OvOk A d L' a' cap' m w')) ∧ Hid (Below w.heap.size w w')) := fun W hb => by
    refine (over_one A a b ca cb d W (hm.below hb.out) (hm'.below hb.out) hdg hc (by omega) hd0 hd).mono ?_
    rintro r w' ⟨h1, h2⟩
    exact ⟨h1, bl_then hb.out h2⟩
  have HK : Hid (∀ W, Hid (Below w.heap.size w W) → (W.cell? ⟨z, 0, none⟩ = some (.bool neg) ∧ W.cell? ⟨z, 1, none⟩ = some (.slice a A.length ca) ∧ W.cell? ⟨y, 0, none⟩ = some (.bool false) ∧ W.cell? ⟨y, 1, none⟩ = some (.slice b 1 cb)) ∧ Hid (Below w.heap.size w W)) := fun W hb => by
    refine ⟨⟨?_, ?_, ?_, ?_⟩, hb⟩
    · rw [hb.out.cell (p := ⟨z, 0, none⟩) hlt]; exact c0
    · rw [hb.out.cell (p := ⟨z, 1, none⟩) hlt]; exact c1
    · rw [hb.out.cell (p := ⟨y, 0, none⟩) hlt']; exact c0'
    · rw [hb.out.cell (p := ⟨y, 1, none⟩) hlt']; exact c1'
  have HPL : Hid (∀ (W : World) (T : TypeId) (L' : List Nat) (a' : Option Addr) (cap' v : Nat), Hid (Below w.heap.size w W) → Hid (MagIs v A.length L' a' cap' W) → Calls Try.prog 46 #[.slice a' L'.length cap', .slice (some ⟨W.heap.size, 0, none⟩) 1 1] (W.alloc (.cells #[.int .u32 1] T)) fun r w' => (∃ L2 a2 cap2, r = .returned (.slice a2 (List.length L2) cap2) ∧ Hid (MagIs (v + 1) (A.length + 1) L2 a2 cap2 w')) ∧ Hid (Below w.heap.size w w')) := fun W T L' a' cap' v hb hM => by
    obtain ⟨m1, m2, m3, m4, m5, m6⟩ := hM.out
    have hba : Below w.heap.size w (W.alloc (.cells #[.int .u32 1] T)) := bl_then hb.out (al_below _ _)
    refine (plus_any L' [1] a' (some ⟨W.heap.size, 0, none⟩) cap' 1 (W.alloc (.cells #[.int .u32 1] T)) (m3.below (al_below _ _)) (mag_build W 1 T) m4 (fun x hx => by simp at hx; omega) (by omega) (by simp)).mono ?_
    rintro r w' ⟨⟨L2, a2, cap2, h1, h2, h3, h4, h5, h6, h7⟩, hb2⟩
    refine ⟨⟨L2, a2, cap2, h1, h2, ?_, h4, h5, h6, ?_⟩, bl_then hba hb2⟩
    · have : max L'.length [1].length ≤ max A.length 1 := by simp; omega
      have h1' : max L'.length 1 ≤ max A.length 1 := by omega
      rcases Nat.eq_zero_or_pos A.length with h0 | h0
      · have hv0 : natL L' = 0 := by
          have : L' = [] := List.length_eq_zero_iff.1 (by omega)
          rw [this]
          rfl
        rw [hv0, natL_one] at h7
        have := len_small L2 1 h6 (by rw [h7]; decide)
        omega
      · simp at h3
        omega
    · rw [h7, natL_one, m6]
  have HP : Hid (∀ (W : World) (n' : Bool) (L' : List Nat) (a' : Option Addr) (cap' v bd : Nat), Hid (Below w.heap.size w W) → Hid (MagIs v bd L' a' cap' W) → Hid (bd ≤ A.length + 1) → Calls Try.prog 37 #[.pointer (some ⟨z, 0, none⟩), .bool n', .slice a' L'.length cap'] W fun r w' => r = .returned (.pointer (some ⟨z, 0, none⟩)) ∧ Hid (PutIs z (n' && decide (v ≠ 0)) v bd w w')) := fun W n' L' a' cap' v bd hb hM hbd => by
    refine (put_is z n' v bd w W L' a' cap' (ZOk.below hz hb.out) hM.out (by have := hbd.out; omega)).mono ?_
    rintro r w' ⟨rfl, h⟩
    exact ⟨rfl, h⟩
  have HV : Hid (∀ (v bd : Nat) w', PutIs z (neg && decide (v ≠ 0)) v bd w w' → bd ≤ A.length + 1 → (v = if neg = true ∧ natL A % d ≠ 0 then natL A / d + 1 else natL A / d) → PutZ z (intL neg A / (d : Int)) (A.length + 1) w w') := fun v bd w' h hb hv => by
    refine h.toZ ?_ hb
    rw [div_val neg (natL A) d v hd0 hv]
    rfl
  obtain ⟨k, hk⟩ : ∃ k, Hid (A.length = k) := ⟨_, rfl⟩
  rw [hk.out] at HO HK HPL HP HV ⊢
  have HD0 : Hid (Below w.heap.size w w.drew) := (Below.refl _ _).drew
  clear hz hA hm hm' hdg hdg' hc hc' hneg hneg' ho ho' hcap hcap' hf hf' c0 c1 c0' c1'
  cases neg
  · skip
    go_enter Try.func36, Try.ntmps36
    go_wp2_with fail
    go_region_held3 (fun W => (W.cell? ⟨z, 0, none⟩ = some (.bool false) ∧ W.cell? ⟨z, 1, none⟩ = some (.slice a k ca) ∧ W.cell? ⟨y, 0, none⟩ = some (.bool false) ∧ W.cell? ⟨y, 1, none⟩ = some (.slice b 1 cb)) ∧ Hid (Below w.heap.size w W))
      ((refine HK.out _ ?_; first | with_reducible assumption | with_reducible exact HD0))
      (first
        | (go_at_call 45; refine (HO.out _ (And.right (by assumption))).mono ?_; rintro e w1 ⟨⟨L', a', cap', m, am, cm, rfl, HV1⟩, HB1⟩)
        | fail)
    obtain ⟨⟨k0, k1, k2, k3⟩, _⟩ := HK.out w1 HB1
    have HM1 : Hid (MagIs (natL A / d) k L' a' cap' w1) := by rw [← hk.out]; exact HV1.out.1
    have HMD : Hid (MagIs (natL A / d) k L' a' cap' w1.drew) := HM1.out.draw
    have HBD : Hid (Below w.heap.size w w1.drew) := HB1.out.drew
    have HKL : Hid (k ≤ k + 1) := hid (Nat.le_succ _)
    go_wp2_with fail
    go_region_with (first
        | (go_at_call 37; refine (HP.out _ false L' a' cap' (natL A / d) k HBD HMD HKL).mono ?_; rintro e w4 ⟨rfl, HE⟩)
        | fail)
    all_goals go_wp2
    all_goals go_ret
    all_goals exact ⟨rfl, HV.out _ _ _ (Hid.out (by assumption)) HKL.out (by rw [if_neg (by simp)])⟩
  · skip
    go_enter Try.func36, Try.ntmps36
    go_wp2_with fail
    go_region_held3 (fun W => (W.cell? ⟨z, 0, none⟩ = some (.bool true) ∧ W.cell? ⟨z, 1, none⟩ = some (.slice a k ca) ∧ W.cell? ⟨y, 0, none⟩ = some (.bool false) ∧ W.cell? ⟨y, 1, none⟩ = some (.slice b 1 cb)) ∧ Hid (Below w.heap.size w W))
      ((refine HK.out _ ?_; first | with_reducible assumption | with_reducible exact HD0))
      (first
        | (go_at_call 45; refine (HO.out _ (And.right (by assumption))).mono ?_; rintro e w1 ⟨⟨L', a', cap', m, am, cm, rfl, HV1⟩, HB1⟩)
        | fail)
    obtain ⟨⟨k0, k1, k2, k3⟩, _⟩ := HK.out w1 HB1
    have HM1 : Hid (MagIs (natL A / d) k L' a' cap' w1) := by rw [← hk.out]; exact HV1.out.1
    have HMD : Hid (MagIs (natL A / d) k L' a' cap' w1.drew) := HM1.out.draw
    have HBD : Hid (Below w.heap.size w w1.drew) := HB1.out.drew
    have HKL : Hid (k ≤ k + 1) := hid (Nat.le_succ _)
    by_cases hm : m = 0
    · subst hm
      have HR0 : Hid (natL A % d = 0) := hid (HV1.out.2.1 rfl)
      go_wp2_with fail
      go_region_with (first
          | (go_at_call 37; refine (HP.out _ true L' a' cap' (natL A / d) k HBD HMD HKL).mono ?_; rintro e w4 ⟨rfl, HE⟩)
          | fail)
      all_goals go_wp2
      all_goals go_ret
      all_goals exact ⟨rfl, HV.out _ _ _ (Hid.out (by assumption)) HKL.out (by rw [if_neg (by simp [HR0.out])])⟩
    · have HR0 : Hid (natL A % d ≠ 0) := hid (fun h => hm (HV1.out.2.2 h))
      have hm0 : (0 : Int) < (m : Int) := by omega
      go_wp2_with fail
      refine (HPL.out _ _ _ _ _ _ HB1 HM1).mono ?_
      rintro e w2 ⟨⟨L2, a2, cap2, rfl, HM2⟩, HB2⟩
      obtain ⟨⟨k0, k1, k2, k3⟩, _⟩ := HK.out w2 HB2
      have HMD2 : Hid (MagIs (natL A / d + 1) (k + 1) L2 a2 cap2 w2.drew) := HM2.out.draw
      have HBD2 : Hid (Below w.heap.size w w2.drew) := HB2.out.drew
      have HKL2 : Hid (k + 1 ≤ k + 1) := hid (Nat.le_refl _)
      go_wp2_with fail
      go_region_with (first
          | (go_at_call 37; refine (HP.out _ true L2 a2 cap2 (natL A / d + 1) (k + 1) HBD2 HMD2 HKL2).mono ?_; rintro e w4 ⟨rfl, HE⟩)
          | fail)
      all_goals go_wp2
      all_goals go_ret
      all_goals exact ⟨rfl, HV.out _ _ _ (Hid.out (by assumption)) HKL2.out (by rw [if_pos (by simp [HR0.out])])⟩
theorem NDivS (z y d bd b2 : Nat) (v : Int) (w : World) (hx : NumAt w z v bd) (hy : NumAt w y (d : Int) b2) (hb : bd ≤ 900000) (hd0 : 0 < d) (hd : d < 4294967296) :
    Calls Try.prog 36 #[.pointer (some ⟨z, 0, none⟩), .pointer (some ⟨z, 0, none⟩), .pointer (some ⟨y, 0, none⟩)] w fun r w' => r = .returned (.pointer (some ⟨z, 0, none⟩)) ∧ NumAt w' z (v / (d : Int)) (bd + 1) ∧ But z w w' := by
  have hz := hx.zok
  obtain ⟨neg, A, rfl, hA, HA⟩ := hx
  refine (Div_self z y d neg A w hz HA (num_word hy hd0 hd) (by omega) hd0 hd).mono ?_
  rintro r w' ⟨rfl, h⟩
  obtain ⟨h1, h2⟩ := h.num
  exact ⟨rfl, h1.more (by omega), h2⟩
end Go.Proofs.Ytfdphegiafccpaa
