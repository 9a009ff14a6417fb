
/- Beside of two that go together: by matrix and by the document. (Written by mknde.py.) -/
import Derived.Test.YtehgiegmdpaomaaP43
namespace Go.Proofs.Ytehgiegmdpaomaa
open Go.RowKit Go.IntWalk

end Go.Proofs.Ytehgiegmdpaomaa

namespace Go.Proofs.Ytehgiegmdpaomaa
open Go.RowKit Go.IntWalk

set_option maxRecDepth 4000 in
set_option maxHeartbeats 1000000 in
theorem Beside_ok (r c c2 n n2 : Nat) (sa sb : Option Addr) (ka kb : Nat) (f f2 : Nat → Nat) (w : World) (ha : Gd w r c sa n ka f) (hb : Gd w r c2 sb n2 kb f2) (hs : c + c2 ≤ 12) :
    Calls Try.prog 9 #[MV r c sa n ka, MV r c2 sb n2 kb] w fun e w' => (∃ (g : Nat) (o : Nat → Nat), e = .returned (.tuple #[.agg #[.int .i64 r, .int .i64 ((c + c2 : Nat) : Int), .slice (some ⟨g, 0, none⟩) (r * (c + c2)) (r * (c + c2))], .int .i64 0]) ∧ FnM w' (some ⟨g, 0, none⟩) (r * (c + c2)) (r * (c + c2)) o ∧ ∀ u v, u < r → v < c + c2 → o (u * (c + c2) + v) = if v < c then f (u * c + v) else f2 (u * c2 + (v - c))) ∧ Below w.heap.size w w' := by
  obtain ⟨t1, t2, t3, t4, t5⟩ := three_b w (MBox r c sa n ka) (MBox r c2 sb n2 kb) (MBox 0 0 none 0 0)
  have HCB := hid (fun W (hW : Below w.heap.size w W) => checkBoth_any r c r c2 n n2 sa sb ka kb _ _ W ((ha.below hW).2.2.2.1.fl) ((hb.below hW).2.2.2.1.fl) (by have := ha.le; omega) (by have := hb.le; omega))
  rw [ha.chk, hb.chk, show first2 0 0 = 0 by rfl] at HCB
  have l1 := ha.1
  have hne : ((r : Int) != (r : Int)) = false := by simp
  obtain ⟨Kc, hKc⟩ : ∃ t, Hid (c + c2 = t) := ⟨_, rfl⟩
  have k12 : Kc ≤ 12 := by have := hKc.out; omega
  have hm1 : r * Kc ≤ 144 := Nat.mul_le_mul l1 k12
  have HM1 : Hid (r * Kc ≤ 144) := hm1
  have hKI : (c : Int) + (c2 : Int) = (Kc : Int) := by have := hKc.out; omega
  have hKw : IntKind.i64.wrap ((c : Int) + (c2 : Int)) = (Kc : Int) := by rw [hKI]; exact IntWalk.i64_in _ (by omega)
  have hKv : IntKind.i64.wrap (Kc : Int) = (Kc : Int) := IntWalk.i64_in _ (by omega)
  have HIS := hid (fun W => isSide_any (Kc : Int) W)
  rw [show sideB (Kc : Int) = true from by unfold sideB; simp; omega] at HIS
  have HFI := hid (fun W (hW : Below (((w.alloc (MBox r c sa n ka)).alloc (MBox r c2 sb n2 kb)).alloc (MBox 0 0 none 0 0)).heap.size (((w.alloc (MBox r c sa n ka)).alloc (MBox r c2 sb n2 kb)).alloc (MBox 0 0 none 0 0)) W) => fill_Beside r Kc (by omega) (by omega) ⟨w.heap.size, 0, none⟩ ⟨w.heap.size + 1, 0, none⟩ (fun u v x => x = if v < c then f (u * c + v) else f2 (u * c2 + (v - c))) W (fun W2 i j hW2 hi hj => clo_Beside i j w.heap.size (w.heap.size + 1) r c c2 sa sb n ka n2 kb f f2 W2 (blkM (blkM t1 hW) hW2) (blkM (blkM t2 hW) hW2) (((ha.2.2.2.1.below t4).below hW).below hW2) (((hb.2.2.2.1.below t4).below hW).below hW2) ha.2.1 hb.2.1 l1 hi (by have := hKc.out; omega) ha.2.2.1 hb.2.2.1))
  rw [hKc.out]
  obtain ⟨V, hV⟩ : ∃ V, Hid (((w.alloc (MBox r c sa n ka)).alloc (MBox r c2 sb n2 kb)).alloc (MBox 0 0 none 0 0) = V) := ⟨_, rfl⟩
  rw [hV.out] at HFI t1 t2 t3 t4 t5
  have hV' := hV.out
  have HB := hid t4
  have HR := hid t3
  have HA0 := hid t1
  have HA1 := hid t2
  obtain ⟨x0, x1, x2⟩ := mcells_of t1
  obtain ⟨v0, v1, v2⟩ := mcells_of t2
  unfold MBox at hV'
  unfold MV at HCB ⊢
  clear t1 t2 t3 t4 t5 ha hb l1 hm1 hs k12
  go_enter Try.func9, Try.ntmps9
  go_wp2_with fail
  refine (HCB.out _ HB.out).mono ?_
  rintro e w1 ⟨rfl, hb1⟩
  have HB1 := hid (HB.out.trans (hb1.mono HB.out.size))
  have HR1 := hid (blkM HR.out hb1)
  have HFF := hid (HFI.out _ hb1)
  obtain ⟨x0, x1, x2⟩ := mcells_of (blkM HA0.out hb1)
  obtain ⟨v0, v1, v2⟩ := mcells_of (blkM HA1.out hb1)
  clear hb1
  go_wp2_with fail
  refine (HIS.out _).mono ?_
  rintro e ww ⟨rfl, hw⟩
  rw [hw]
  clear hw
  go_wp2_with fail
  refine HFF.out.mono ?_
  rintro e w2 ⟨hfi, hb2⟩
  obtain ⟨g1, o1, rfl, hg1, hf1, hp1⟩ := hfi.fn (by have := HM1.out; omega)
  have HB2 := hid (HB1.out.trans (hb2.mono HB1.out.size))
  have HR2 := hid (blkM HR1.out hb2)
  have HF1 := hid hf1
  have HP1 := hid hp1
  obtain ⟨r0, r1, r2⟩ := mcells_of HR2.out
  have fz := frzM HR2.out
  unfold MV
  clear hb2 hfi hg1 hf1 hp1
  go_wp2_with fail
  exact bodyPost_ret (v := .tuple #[.agg #[.int .i64 r, .int .i64 Kc, .slice (some ⟨g1, 0, none⟩) (r * Kc) (r * Kc)], .int .i64 0]) (by simp [results, Try.results9, go_sem, r0, r1, r2]) rfl ⟨⟨g1, o1, rfl, StoM.fn HF1.out HR2.out, HP1.out⟩, StoM.below HB2.out (by omega)⟩
end Go.Proofs.Ytehgiegmdpaomaa

namespace Go.Proofs.Ytehgiegmdpaomaa
open Go.RowKit Go.IntWalk

/-- The numbers of a turned matrix, of a block, of two side by side. -/
def trnV (xs : List Nat) (c : Nat) (i j : Nat) : Nat := canonOf (xs.getD (j * c + i) 0)
def blkV (xs : List Nat) (c p q : Nat) (u v : Nat) : Nat := canonOf (xs.getD ((p + u) * c + (q + v)) 0)
def bsdV (xs ys : List Nat) (c c2 : Nat) (u v : Nat) : Nat := if v < c then canonOf (xs.getD (u * c + v) 0) else canonOf (ys.getD (u * c2 + (v - c)) 0)
theorem res_fin {r c g : Nat} {o : Nat → Nat} {v : Nat → Nat → Nat} {W : World} (hf : FnM W (some ⟨g, 0, none⟩) (r * c) (r * c) o) (hv : ∀ i j, i < r → j < c → canonOf (o (i * c + j)) = v i j) (hfin : ∀ i j, i < r → j < c → o (i * c + j) % 9223372036854775808 < 9218868437227405312) : ResM 0 r c v W r c (some ⟨g, 0, none⟩) (r * c) (r * c) := by
  refine Or.inl ⟨rfl, rfl, rfl, rfl, rfl, g, o, rfl, hf, hv, ?_⟩
  rw [finF_iff]
  intro k hk
  obtain ⟨q1, q2, q3⟩ := split_k hk
  have h := hfin _ _ q1 q2
  rw [q3] at h
  unfold expOf
  rw [canq_fin h]
  exact expq_fin h
theorem blk_zero {E r c i j a b : Int} (h : blkE E r c i j a b = 0) : E = 0 ∧ 0 ≤ i ∧ 0 ≤ j ∧ 0 ≤ a ∧ 0 ≤ b ∧ i + a ≤ r ∧ j + b ≤ c := by
  unfold blkE at h
  by_cases q : E = 0
  · rw [if_neg (fun z => z q)] at h
    by_cases p : 0 ≤ i ∧ 0 ≤ j ∧ 0 ≤ a ∧ 0 ≤ b ∧ i + a ≤ r ∧ j + b ≤ c
    · exact ⟨q, p⟩
    · rw [if_neg p] at h; cases h
  · rw [if_pos q] at h; exact absurd h q
theorem Block_tot (rx cx : Int) (sa : Option Addr) (n ka : Nat) (xs : List Nat) (i j a b : Int) (w : World) (ha : FlM w sa n ka xs) (hn : n ≤ 17592186043904) (hA : a ≤ 9223372036854775807) (hB : b ≤ 9223372036854775807) :
    Calls Try.prog 8 #[.agg #[.int .i64 rx, .int .i64 cx, .slice sa n ka], .int .i64 i, .int .i64 j, .int .i64 a, .int .i64 b] w fun e w' => (∃ X0 X1 X2 X3 X4, e = .returned (.tuple #[.agg #[.int .i64 X0, .int .i64 X1, .slice X2 X3 X4], .int .i64 (blkE (chkM rx cx n xs) rx cx i j a b)]) ∧ ResM (blkE (chkM rx cx n xs) rx cx i j a b) a.toNat b.toNat (blkV xs cx.toNat i.toNat j.toNat) w' X0 X1 X2 X3 X4) ∧ Below w.heap.size w w' := by
  by_cases h : blkE (chkM rx cx n xs) rx cx i j a b = 0
  · rw [h]
    obtain ⟨h1, p1, p2, p3, p4, p5, p6⟩ := blk_zero h
    obtain ⟨r, c, rfl, rfl, hga⟩ := gd_of ha h1
    obtain ⟨i', rfl⟩ := Int.eq_ofNat_of_zero_le p1
    obtain ⟨j', rfl⟩ := Int.eq_ofNat_of_zero_le p2
    obtain ⟨a', rfl⟩ := Int.eq_ofNat_of_zero_le p3
    obtain ⟨b', rfl⟩ := Int.eq_ofNat_of_zero_le p4
    rw [Int.toNat_natCast c, Int.toNat_natCast i', Int.toNat_natCast j', Int.toNat_natCast a', Int.toNat_natCast b']
    refine (Block_ok r c n i' j' a' b' sa ka xs w ha h1 (by omega) (by omega)).mono ?_
    rintro e w' ⟨⟨g, o, rfl, hf, hv⟩, hbb⟩
    exact ⟨⟨_, _, _, _, _, rfl, res_fin hf (fun p q hp hq => by rw [hv p q hp hq]; rfl) (fun p q hp hq => by rw [hv p q hp hq]; exact (gd_fin hga _ (place_lt (by omega) (by omega))).2)⟩, hbb⟩
  · refine (Block_non rx cx sa n ka xs i j a b w ha hn hA hB h).mono ?_
    rintro e w' ⟨rfl, hbb⟩
    obtain ⟨X0, X1, X2, X3, X4, e1, e2⟩ := res_non a.toNat b.toNat (blkV xs cx.toNat i.toNat j.toNat) _ w' h
    exact ⟨⟨X0, X1, X2, X3, X4, by rw [e1], e2⟩, hbb⟩
end Go.Proofs.Ytehgiegmdpaomaa

namespace Go.Proofs.Ytehgiegmdpaomaa
open Go.RowKit Go.IntWalk

def bsdE (r c r2 c2 : Int) : Int := if r ≠ r2 then 3 else if 12 < c + c2 then 1 else 0
/-- What Beside tells of any two. -/
def bsdT (rx cx : Int) (n : Nat) (xs : List Nat) (ry cy : Int) (m : Nat) (ys : List Nat) : Int := if first2 (chkM rx cx n xs) (chkM ry cy m ys) = 0 then bsdE rx cx ry cy else first2 (chkM rx cx n xs) (chkM ry cy m ys)
theorem bsd_can (xs ys : List Nat) (c c2 u v : Nat) : canonOf (if v < c then xs.getD (u * c + v) 0 else ys.getD (u * c2 + (v - c)) 0) = bsdV xs ys c c2 u v := by
  unfold bsdV
  by_cases h : v < c
  · rw [if_pos h, if_pos h]
  · rw [if_neg h, if_neg h]
theorem Beside_tot (rx cx : Int) (sa : Option Addr) (n ka : Nat) (xs : List Nat) (ry cy : Int) (sb : Option Addr) (m kb : Nat) (ys : List Nat) (w : World) (ha : FlM w sa n ka xs) (hb : FlM w sb m kb ys) (hn : n ≤ 17592186043904) (hm : m ≤ 17592186043904) :
    Calls Try.prog 9 #[.agg #[.int .i64 rx, .int .i64 cx, .slice sa n ka], .agg #[.int .i64 ry, .int .i64 cy, .slice sb m kb]] w fun e w' => (∃ X0 X1 X2 X3 X4, e = .returned (.tuple #[.agg #[.int .i64 X0, .int .i64 X1, .slice X2 X3 X4], .int .i64 (bsdT rx cx n xs ry cy m ys)]) ∧ ResM (bsdT rx cx n xs ry cy m ys) rx.toNat (cx.toNat + cy.toNat) (bsdV xs ys cx.toNat cy.toNat) w' X0 X1 X2 X3 X4) ∧ Below w.heap.size w w' := by
  unfold bsdT
  by_cases h : first2 (chkM rx cx n xs) (chkM ry cy m ys) = 0
  · rw [if_pos h]
    obtain ⟨h1, h2⟩ := first2_zero h
    obtain ⟨r, c, rfl, rfl, hga⟩ := gd_of ha h1
    obtain ⟨r2, c2, rfl, rfl, hgb⟩ := gd_of hb h2
    rw [Int.toNat_natCast r, Int.toNat_natCast c, Int.toNat_natCast c2]
    have l1 := hga.2.1
    have l2 := hgb.2.1
    by_cases hs : r = r2
    · subst hs
      by_cases ht : c + c2 ≤ 12
      · have e0 : bsdE r c r c2 = 0 := by unfold bsdE; rw [if_neg (fun q => q rfl), if_neg (by omega)]
        rw [e0]
        refine (Beside_ok r c c2 n m sa sb ka kb _ _ w hga hgb ht).mono ?_
        rintro e w' ⟨⟨g, o, rfl, hf, hv⟩, hbb⟩
        refine ⟨⟨_, _, _, _, _, rfl, res_fin hf (fun i j hi hj => ?_) (fun i j hi hj => ?_)⟩, hbb⟩
        · rw [hv i j hi hj]
          exact bsd_can _ _ c c2 i j
        · rw [hv i j hi hj]
          by_cases q : j < c
          · rw [if_pos q]; exact (gd_fin hga _ (place_lt hi q)).2
          · rw [if_neg q]; exact (gd_fin hgb _ (place_lt hi (by omega))).2
      · have e1 : bsdE r c r c2 = 1 := by unfold bsdE; rw [if_neg (fun q => q rfl), if_pos (by omega)]
        refine (Beside_range r c c2 n m sa sb ka kb _ _ w hga hgb (by omega)).mono ?_
        rintro e w' ⟨rfl, hbb⟩
        obtain ⟨X0, X1, X2, X3, X4, e3, e2⟩ := res_non r (c + c2) (bsdV xs ys c c2) (bsdE r c r c2) w' (by rw [e1]; decide)
        exact ⟨⟨X0, X1, X2, X3, X4, by rw [← e3, e1], e2⟩, hbb⟩
    · have e1 : bsdE r c r2 c2 = 3 := by unfold bsdE; rw [if_pos (by omega)]
      refine (Beside_shape r c r2 c2 n m sa sb ka kb _ _ w hga hgb hs).mono ?_
      rintro e w' ⟨rfl, hbb⟩
      obtain ⟨X0, X1, X2, X3, X4, e3, e2⟩ := res_non r (c + c2) (bsdV xs ys c c2) (bsdE r c r2 c2) w' (by rw [e1]; decide)
      exact ⟨⟨X0, X1, X2, X3, X4, by rw [← e3, e1], e2⟩, hbb⟩
  · rw [if_neg h]
    refine (Beside_bad rx cx ry cy n m sa sb ka kb xs ys w ha hb hn hm h).mono ?_
    rintro e w' ⟨rfl, hbb⟩
    obtain ⟨X0, X1, X2, X3, X4, e1, e2⟩ := res_non rx.toNat (cx.toNat + cy.toNat) (bsdV xs ys cx.toNat cy.toNat) _ w' h
    exact ⟨⟨X0, X1, X2, X3, X4, by rw [e1], e2⟩, hbb⟩
end Go.Proofs.Ytehgiegmdpaomaa
