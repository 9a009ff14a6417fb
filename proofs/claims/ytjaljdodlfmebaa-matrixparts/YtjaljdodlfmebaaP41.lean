
/- Block, by matrix: any matrix, any place. (Written by mkndb.py.) -/
import Derived.Test.YtjaljdodlfmebaaP40
import Derived.Test.YtjaljdodlfmebaaP36
namespace Go.Proofs.Ytjaljdodlfmebaa
open Go.RowKit Go.IntWalk

/-- What is wrong with a block. -/
def blkE (E r c i j a b : Int) : Int := if E ≠ 0 then E else if 0 ≤ i ∧ 0 ≤ j ∧ 0 ≤ a ∧ 0 ≤ b ∧ i + a ≤ r ∧ j + b ≤ c then 0 else 1
set_option maxRecDepth 4000 in
set_option maxHeartbeats 2000000 in
theorem spanG_any (r c : Int) (sa : Option Addr) (n ka : Nat) (xs : List Nat) (i j a b : Int) (w : World) (h : FlM w sa n ka xs) (hn : n ≤ 17592186043904) (ha : a ≤ 9223372036854775807) (hb : b ≤ 9223372036854775807) :
    Calls Try.prog 32 #[.agg #[.int .i64 r, .int .i64 c, .slice sa n ka], .int .i64 i, .int .i64 j, .int .i64 a, .int .i64 b] w fun e w' => e = .returned (.int .i64 (blkE (chkM r c n xs) r c i j a b)) ∧ Below w.heap.size w w' := by
  have HB0 : Hid (Below w.heap.size w (w.alloc (MBox r c sa n ka))) := (Below.refl _ _).alloc (Nat.le_refl _) _
  have HA0 : Hid ((w.alloc (MBox r c sa n ka)).heap[w.heap.size]? = some (MBox r c sa n ka)) := nblkM _ _
  obtain ⟨V, hV⟩ : ∃ V, Hid (w.alloc (MBox r c sa n ka) = V) := ⟨_, rfl⟩
  rw [hV.out] at HB0 HA0
  have HF := hid (Check_any r c sa n ka xs V (h.below HB0.out) hn)
  have HSD : Hid (chkM r c n xs = 0 → 0 ≤ r ∧ r ≤ 12 ∧ 0 ≤ c ∧ c ≤ 12) := fun hz => by
    obtain ⟨p, q, rfl, rfl, h1, h2, _, _⟩ := chk_some hz
    omega
  have hV' := hV.out
  unfold MBox at hV'
  unfold MV at HF
  obtain ⟨x0, x1, x2⟩ := mcells_of HA0.out
  obtain ⟨E, hE⟩ : ∃ E, Hid (chkM r c n xs = E) := ⟨_, rfl⟩
  rw [hE.out] at HF HSD ⊢
  clear h hn
  by_cases hE0 : E = 0
  · subst hE0
    obtain ⟨s1, s2, s3, s4⟩ := HSD.out rfl
    have HFD : Hid (∀ q : Prop, (q ↔ (0 ≤ i ∧ 0 ≤ j ∧ 0 ≤ a ∧ 0 ≤ b ∧ i + a ≤ r ∧ j + b ≤ c)) → [Decidable q] → blkE 0 r c i j a b = if q then 0 else 1) := fun q hq _ => by
      unfold blkE
      rw [if_neg (by decide)]
      by_cases hp : 0 ≤ i ∧ 0 ≤ j ∧ 0 ≤ a ∧ 0 ≤ b ∧ i + a ≤ r ∧ j + b ≤ c
      · rw [if_pos hp, if_pos (hq.2 hp)]
      · rw [if_neg hp, if_neg (fun h => hp (hq.1 h))]
    have HF1 : Hid (¬ (0 ≤ i ∧ 0 ≤ j ∧ 0 ≤ a ∧ 0 ≤ b ∧ i + a ≤ r ∧ j + b ≤ c) → blkE 0 r c i j a b = 1) := fun hp => by unfold blkE; rw [if_neg (by decide), if_neg hp]
    have HF0 : Hid (0 ≤ i ∧ 0 ≤ j ∧ 0 ≤ a ∧ 0 ≤ b ∧ i + a ≤ r ∧ j + b ≤ c → blkE 0 r c i j a b = 0) := fun hp => by unfold blkE; rw [if_neg (by decide), if_pos hp]
    clear HFD
    by_cases d1 : i < 0
    · rw [HF1.out (by omega)]
      go_enter Try.func32, Try.ntmps32
      go_wp2_with fail
      refine HF.out.mono ?_
      rintro e w2 ⟨rfl, hb2⟩
      have HB2 := hid (HB0.out.trans (hb2.mono HB0.out.size))
      obtain ⟨y0, y1, y2⟩ := mcells_of (blkM HA0.out hb2)
      clear hb2
      go_wp2_with fail
      go_ret
      exact ⟨rfl, HB2.out⟩
    by_cases d2 : j < 0
    · rw [HF1.out (by omega)]
      go_enter Try.func32, Try.ntmps32
      go_wp2_with fail
      refine HF.out.mono ?_
      rintro e w2 ⟨rfl, hb2⟩
      have HB2 := hid (HB0.out.trans (hb2.mono HB0.out.size))
      obtain ⟨y0, y1, y2⟩ := mcells_of (blkM HA0.out hb2)
      clear hb2
      go_wp2_with fail
      go_ret
      exact ⟨rfl, HB2.out⟩
    by_cases d3 : a < 0
    · rw [HF1.out (by omega)]
      go_enter Try.func32, Try.ntmps32
      go_wp2_with fail
      refine HF.out.mono ?_
      rintro e w2 ⟨rfl, hb2⟩
      have HB2 := hid (HB0.out.trans (hb2.mono HB0.out.size))
      obtain ⟨y0, y1, y2⟩ := mcells_of (blkM HA0.out hb2)
      clear hb2
      go_wp2_with fail
      go_ret
      exact ⟨rfl, HB2.out⟩
    by_cases d4 : b < 0
    · rw [HF1.out (by omega)]
      go_enter Try.func32, Try.ntmps32
      go_wp2_with fail
      refine HF.out.mono ?_
      rintro e w2 ⟨rfl, hb2⟩
      have HB2 := hid (HB0.out.trans (hb2.mono HB0.out.size))
      obtain ⟨y0, y1, y2⟩ := mcells_of (blkM HA0.out hb2)
      clear hb2
      go_wp2_with fail
      go_ret
      exact ⟨rfl, HB2.out⟩
    obtain ⟨ra, hra⟩ : ∃ t, Hid (r - a = t) := ⟨_, rfl⟩
    obtain ⟨cb, hcb⟩ : ∃ t, Hid (c - b = t) := ⟨_, rfl⟩
    have ra' := hra.out
    have cb' := hcb.out
    have m1 : -9223372036854775808 ≤ ra := by omega
    have m2 : ra ≤ 9223372036854775807 := by omega
    have m3 : -9223372036854775808 ≤ cb := by omega
    have m4 : cb ≤ 9223372036854775807 := by omega
    by_cases d5 : ra < i
    · rw [HF1.out (by omega)]
      clear s1 s2 s3 s4 ha hb
      go_enter Try.func32, Try.ntmps32
      go_wp2_with fail
      refine HF.out.mono ?_
      rintro e w2 ⟨rfl, hb2⟩
      have HB2 := hid (HB0.out.trans (hb2.mono HB0.out.size))
      obtain ⟨y0, y1, y2⟩ := mcells_of (blkM HA0.out hb2)
      clear hb2
      go_wp2_with fail
      go_ret
      exact ⟨rfl, HB2.out⟩
    by_cases d6 : cb < j
    · rw [HF1.out (by omega)]
      clear s1 s2 s3 s4 ha hb
      go_enter Try.func32, Try.ntmps32
      go_wp2_with fail
      refine HF.out.mono ?_
      rintro e w2 ⟨rfl, hb2⟩
      have HB2 := hid (HB0.out.trans (hb2.mono HB0.out.size))
      obtain ⟨y0, y1, y2⟩ := mcells_of (blkM HA0.out hb2)
      clear hb2
      go_wp2_with fail
      go_ret
      exact ⟨rfl, HB2.out⟩
    rw [HF0.out (by omega)]
    clear s1 s2 s3 s4 ha hb
    go_enter Try.func32, Try.ntmps32
    go_wp2_with fail
    refine HF.out.mono ?_
    rintro e w2 ⟨rfl, hb2⟩
    have HB2 := hid (HB0.out.trans (hb2.mono HB0.out.size))
    obtain ⟨y0, y1, y2⟩ := mcells_of (blkM HA0.out hb2)
    clear hb2
    go_wp2_with fail
    go_ret
    exact ⟨rfl, HB2.out⟩
  · have hne : (E != 0) = true := by simpa using hE0
    rw [show blkE E r c i j a b = E from by unfold blkE; rw [if_pos hE0]]
    clear hE0 ha hb
    go_enter Try.func32, Try.ntmps32
    go_wp2_with fail
    refine HF.out.mono ?_
    rintro e w2 ⟨rfl, hb2⟩
    have HB2 := hid (HB0.out.trans (hb2.mono HB0.out.size))
    obtain ⟨y0, y1, y2⟩ := mcells_of (blkM HA0.out hb2)
    clear hb2
    go_wp2_with fail
    go_ret
    exact ⟨rfl, HB2.out⟩
set_option maxRecDepth 4000 in
set_option maxHeartbeats 1000000 in
theorem Block_non (r c : Int) (sa : Option Addr) (n ka : Nat) (xs : List Nat) (i j a b : Int) (w : World) (h : FlM w sa n ka xs) (hn : n ≤ 17592186043904) (ha : a ≤ 9223372036854775807) (hb : b ≤ 9223372036854775807) (hE : blkE (chkM r c n xs) r c i j a b ≠ 0) :
    Calls Try.prog 11 #[.agg #[.int .i64 r, .int .i64 c, .slice sa n ka], .int .i64 i, .int .i64 j, .int .i64 a, .int .i64 b] w fun e w' => e = .returned (NonM (blkE (chkM r c n xs) r c i j a b)) ∧ Below w.heap.size w w' := by
  obtain ⟨t1, t2, t3, t4⟩ := two_b w (MBox r c sa n ka) (MBox 0 0 none 0 0)
  have HCB := hid (fun W (hW : Below w.heap.size w W) => spanG_any r c sa n ka xs i j a b W (h.below hW) hn ha hb)
  obtain ⟨E, hEE⟩ : ∃ E, Hid (blkE (chkM r c n xs) r c i j a b = E) := ⟨_, rfl⟩
  rw [hEE.out] at HCB hE
  rw [hEE.out]
  have hne : (E != 0) = true := by simpa using hE
  obtain ⟨V, hV⟩ : ∃ V, Hid ((w.alloc (MBox r c sa n ka)).alloc (MBox 0 0 none 0 0) = V) := ⟨_, rfl⟩
  rw [hV.out] at t1 t2 t3 t4
  have hV' := hV.out
  have HB := hid t3
  have HR := hid t2
  obtain ⟨x0, x1, x2⟩ := mcells_of t1
  unfold MBox at hV'
  unfold NonM
  unfold MV
  clear t1 t2 t3 t4 h hn ha hb hE
  go_enter Try.func11, Try.ntmps11
  go_wp2_with fail
  refine (HCB.out _ HB.out).mono ?_
  rintro e w1 ⟨rfl, hb1⟩
  have HB1 := hid (HB.out.trans (hb1.mono HB.out.size))
  have HR1 := hid (blkM HR.out hb1)
  clear hb1
  go_wp2_with fail
  refine (refused_any E _).mono ?_
  rintro e w2 ⟨rfl, hb2⟩
  have HB2 := hid (HB1.out.trans (hb2.mono HB1.out.size))
  have HR2 := hid (blkM HR1.out hb2)
  obtain ⟨r0, r1, r2⟩ := mcells_of HR2.out
  have fz := frzM HR2.out
  unfold MV
  clear hb2
  go_wp2_with fail
  exact bodyPost_ret (v := .tuple #[MV 0 0 none 0 0, .int .i64 E]) (by simp [results, Try.results11, go_sem, r0, r1, r2, MV]) rfl ⟨rfl, StoM.below HB2.out (by omega)⟩
set_option maxRecDepth 4000 in
set_option maxHeartbeats 1000000 in
theorem Block_ok (r c n i j a b : Nat) (sa : Option Addr) (ka : Nat) (xs : List Nat) (w : World) (h : FlM w sa n ka xs) (hz : chkM r c n xs = 0) (hr : i + a ≤ r) (hc : j + b ≤ c) :
    Calls Try.prog 11 #[.agg #[.int .i64 r, .int .i64 c, .slice sa n ka], .int .i64 i, .int .i64 j, .int .i64 a, .int .i64 b] w fun e w' => (∃ (g : Nat) (o : Nat → Nat), e = .returned (.tuple #[.agg #[.int .i64 a, .int .i64 b, .slice (some ⟨g, 0, none⟩) (a * b) (a * b)], .int .i64 0]) ∧ FnM w' (some ⟨g, 0, none⟩) (a * b) (a * b) o ∧ ∀ p q, p < a → q < b → o (p * b + q) = xs.getD ((i + p) * c + (j + q)) 0) ∧ Below w.heap.size w w' := by
  obtain ⟨t1, t2, t3, t4⟩ := two_b w (MBox r c sa n ka) (MBox 0 0 none 0 0)
  obtain ⟨R, C, eR, eC, hga⟩ := gd_of h hz
  obtain rfl : r = R := by omega
  obtain rfl : c = C := by omega
  have l1 := hga.1
  have l2 := hga.2.1
  have hmax : a * b ≤ 144 := Nat.mul_le_mul (show a ≤ 12 by omega) (show b ≤ 12 by omega)
  have HMX := hid hmax
  have HCB := hid (fun W (hW : Below w.heap.size w W) => spanG_any r c sa n ka xs i j a b W (h.below hW) (by have := hga.le; omega) (by omega) (by omega))
  rw [show blkE (chkM r c n xs) r c i j a b = 0 from by unfold blkE; rw [if_neg (fun q => q hz), if_pos (by omega)]] at HCB
  have HPT := hid (fun W (hW : Below w.heap.size w W) => part_any r c n i j a b sa ka _ W (h.below hW).fn hga.2.2.1 l1 l2 hr hc)
  obtain ⟨V, hV⟩ : ∃ V, Hid ((w.alloc (MBox r c sa n ka)).alloc (MBox 0 0 none 0 0) = V) := ⟨_, rfl⟩
  rw [hV.out] at t1 t2 t3 t4
  have hV' := hV.out
  have HB := hid t3
  have HR := hid t2
  have HA0 := hid t1
  obtain ⟨x0, x1, x2⟩ := mcells_of t1
  unfold MBox at hV'
  clear t1 t2 t3 t4 h hz hr hc hga l1 l2 hmax eR eC
  go_enter Try.func11, Try.ntmps11
  go_wp2_with fail
  refine (HCB.out _ HB.out).mono ?_
  rintro e w1 ⟨rfl, hb1⟩
  have HB1 := hid (HB.out.trans (hb1.mono HB.out.size))
  have HR1 := hid (blkM HR.out hb1)
  obtain ⟨x0, x1, x2⟩ := mcells_of (blkM HA0.out hb1)
  clear hb1
  go_wp2_with fail
  refine (HPT.out _ HB1.out).mono ?_
  rintro e w2 ⟨⟨g, o, rfl, hg, hrow, hv⟩, hb2⟩
  have HB2 := hid (HB1.out.trans (hb2.mono HB1.out.size))
  have HR2 := hid (blkM HR1.out hb2)
  have HFN : Hid (FnM w2 (some ⟨g, 0, none⟩) (a * b) (a * b) o) := rowF hrow (fun k hk => by
    obtain ⟨q1, q2, q3⟩ := split_k hk
    have := (hv _ _ q1 q2).2
    rw [q3] at this
    exact this) HMX.out
  have HV := hid (fun p q hp hq => (hv p q hp hq).1)
  obtain ⟨r0, r1, r2⟩ := mcells_of HR2.out
  have fz := frzM HR2.out
  clear hb2 hg hrow hv
  go_wp2_with fail
  exact bodyPost_ret (v := .tuple #[.agg #[.int .i64 a, .int .i64 b, .slice (some ⟨g, 0, none⟩) (a * b) (a * b)], .int .i64 0]) (by simp [results, Try.results11, go_sem, r0, r1, r2]) rfl ⟨⟨g, o, rfl, StoM.fn HFN.out HR2.out, HV.out⟩, StoM.below HB2.out (by omega)⟩
end Go.Proofs.Ytjaljdodlfmebaa
