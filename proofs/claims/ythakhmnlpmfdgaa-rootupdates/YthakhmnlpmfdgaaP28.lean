
/- The document's Row and Col; the law's told, list, same, f. (Written by mkmve.py.) -/
import Derived.Test.YthakhmnlpmfdgaaP27
namespace Go.Proofs.Ythakhmnlpmfdgaa
open Go.RowKit Go.IntWalk

theorem ownsq_kept {w w' : World} {base : Nat} {v : Value} {xs : List Nat} (h : Owns w base v xs) (hb : Below w.heap.size w w') : Owns w' base v xs := by
  obtain ⟨h1, h2 | ⟨g, cap, cur, e1, e2, e3, e4⟩⟩ := h
  · exact ⟨h1, .inl h2⟩
  · exact ⟨h1, .inr ⟨g, cap, cur, e1, e2, (hb.block g (Array.getElem?_eq_some_iff.1 e3).1).trans e3, e4⟩⟩
set_option maxRecDepth 4000 in
set_option maxHeartbeats 2000000 in
theorem rCol_any (R C p n cap : Nat) (sa : Option Addr) (f : Nat → Nat) (w : World) (h : FnM w sa n cap f) (hR : R ≤ 12) (hC : C ≤ 12) (hn : n = R * C) (hp : p < C) :
    Calls Try.prog 59 #[.agg #[.int .i64 R, .int .i64 C, .slice sa n cap], .int .i64 p] w fun e w' => (∃ s l, e = .returned (.slice s R l) ∧ FnM w' s R l (fun t => f (t * C + p))) ∧ Below w.heap.size w w' := by
  obtain ⟨i0, hi, hz0, hz1, hz2⟩ := info_parts info_f
  have HB0 : Hid (Below w.heap.size w (w.alloc (MBox R C sa n cap))) := (Below.refl _ _).alloc (Nat.le_refl _) _
  have HA0 : Hid ((w.alloc (MBox R C sa n cap)).heap[w.heap.size]? = some (MBox R C sa n cap)) := nblkM _ _
  have HSV : Hid ((w.alloc (MBox R C sa n cap)).heap.size = w.heap.size + 1) := World.size_alloc _ _
  obtain ⟨V, hV⟩ : ∃ V, Hid (w.alloc (MBox R C sa n cap) = V) := ⟨_, rfl⟩
  rw [hV.out] at HB0 HA0 HSV
  have hV' := hV.out
  unfold MBox at hV'
  obtain ⟨mb, hmb⟩ : ∃ t, Hid (w.heap.size = t) := ⟨_, rfl⟩
  rw [hmb.out] at HA0
  have hmb' := hmb.out
  obtain ⟨B, hB⟩ : ∃ t, Hid (V.heap.size = t) := ⟨_, rfl⟩
  have HLT : Hid (mb < B ∧ w.heap.size ≤ B) := by
    have e1 := hmb.out; have e2 := HSV.out; have e3 := hB.out
    show _ ∧ _
    omega
  have HFN := hid (h.below HB0.out)
  have HFL : Hid (∀ t, t < R → t * C + p < n ∧ f (t * C + p) < 18446744073709551616) := fun t ht => by
    have hlt : t * C + p < n := by rw [hn]; exact place_lt ht hp
    exact ⟨hlt, fn_lt h _ hlt⟩
  have HAT : Hid (∀ W t, Below B V W → t < R → Calls Try.prog 38 #[.agg #[.int .i64 R, .int .i64 C, .slice sa n cap], .int .i64 (t : Nat), .int .i64 (p : Nat)] W fun e w' => e = .returned (.float .f64 (f (t * C + p))) ∧ Below W.heap.size W w') := fun W t hW ht => by
    rw [← hB.out] at hW
    exact rAt_fn R sa C n cap _ _ f W (HFN.out.below hW) (by omega) (by omega) (by omega) (HFL.out t ht).1
  have HM : Hid (R ≤ 12) := by show _ ≤ _; omega
  clear h hR hC hn hp
  go_enter Try.func59, Try.ntmps59
  go_wp2_with fail
  go_loopw [5, 6] (fun u jv wr => ∃ k : Nat, k ≤ R ∧ jv = .int .i64 k ∧ Hid (Owns wr B u ((List.range k).map (fun t => f (t * C + p)))) ∧ Hid (Below B V wr) ∧ Hid (∃ s l, u = .slice s k l)) (fun _ jv _ => R - (intOf jv).toNat)
  case atStart => exact ⟨0, Nat.zero_le _, rfl, World.ownsRow_nil _ _ _ _, Below.refl _ _, ⟨none, 0, rfl⟩⟩
  case round =>
    obtain ⟨k, hk, rfl, HO, HBR, HSH⟩ := hrel
    obtain ⟨y0, y1, y2⟩ := mcells_of (w := wr) ((HBR.out.block _ HLT.out.1).trans HA0.out)
    by_cases hlt : k < R
    · have HA1 := hid (HAT.out wr k HBR.out hlt)
      have HRG : Hid ((List.range (k + 1)).map (fun t => f (t * C + p)) = (List.range k).map (fun t => f (t * C + p)) ++ [f (k * C + p)]) := by show _ = _; rw [List.range_succ, List.map_append]; rfl
      obtain ⟨x, hx⟩ : ∃ x, Hid (f (k * C + p) = x) := ⟨_, rfl⟩
      rw [hx.out] at HA1 HRG
      have hkI : (k : Int) < (R : Int) := by omega
      have HLK := hid hlt
      have hm12 := HM.out
      clear hlt
      go_wp2_with fail
      refine HA1.out.mono ?_
      rintro e w1 ⟨rfl, hb1⟩
      have hown := ownsq_kept HO.out hb1
      have HB1 : Hid (Below B V w1) := HBR.out.trans (hb1.mono (by rw [← hB.out]; exact HBR.out.size))
      have hbw : B ≤ w1.heap.size := by rw [← hB.out]; exact HB1.out.size
      unfold Owns at hown
      rw [List.length_map, List.length_range] at hown
      clear hb1
      go_wp2_with (first
        | (at_builtin; (refine wpList_append_own _ rfl _ _ 32 rfl B 28 i0 (.float .f64 0) 1 8 Try.underlying32 hi hz0 hz1 hz2 rfl (by decide) _ _ _ rfl (hown.alloc _) ⟨w1.heap.size, 0, none⟩ 1 1 [.float .f64 x] rfl rfl ?c1 ?c2 ?c3 ?c4 ?c5 ?_)))
      case c1 =>
        intro j u hj
        match j, hj with
        | 0, hj => simp at hj; subst hj; simp [Addr.add]
      case c2 => intro u hu; simp at hu; subst hu; rfl
      case c3 => unfold maxLen; omega
      case c4 => omega
      case c5 => simp; omega
      intro v' w2 hown' hgrow _
      have HSH2 : Hid (∃ s l, v' = .slice s (k + 1) l) := by
        rcases hown'.2 with ⟨_, h0⟩ | ⟨g, l, cur, e1, _⟩
        · omega
        · exact ⟨_, _, e1⟩
      have HO2 : Hid (Owns w2 B v' ((List.range (k + 1)).map (fun t => f (t * C + p)))) := by
        show w2.ownsRow _ _ _ _ _ _
        rw [List.length_map, List.length_range, HRG.out, List.map_append, List.map_map]
        exact hown'
      have HB2 : Hid (Below B V w2) := (HB1.out.alloc hbw _).grown hgrow (by simp; omega) (fun t ht => (World.ownsRow.lt hown t ht).1)
      clear hown' hgrow hown HO HBR
      go_wp2
      have hl := HLK.out
      refine ⟨⟨k + 1, by omega, by go_num, HO2, HB2, HSH2⟩, ?_⟩
      simp [intOf]; omega
    · obtain rfl : k = R := by omega
      obtain ⟨s, l, rfl⟩ := HSH.out
      have HRES := hid (owns_fn HO.out (fun t ht => (HFL.out t ht).2))
      have HBE : Hid (Below w.heap.size w wr) := HB0.out.trans (HBR.out.mono HLT.out.2)
      go_wp2_with fail
      go_ret
      exact ⟨⟨s, l, rfl, HRES.out⟩, HBE.out⟩
end Go.Proofs.Ythakhmnlpmfdgaa

namespace Go.Proofs.Ythakhmnlpmfdgaa
open Go.RowKit Go.IntWalk

end Go.Proofs.Ythakhmnlpmfdgaa

namespace Go.Proofs.Ythakhmnlpmfdgaa
open Go.RowKit Go.IntWalk

/-- Four variables as they were laid. -/
def Fr5 (w W : World) (p0 p1 rb mb : Nat) (A B R M : Obj) : Prop := Below w.heap.size w W ∧ W.heap[p0]? = some A ∧ W.heap[p1]? = some B ∧ W.heap[rb]? = some R ∧ W.heap[mb]? = some M
theorem Fr5.drew {w W : World} {p0 p1 rb mb : Nat} {A B R M : Obj} (h : Fr5 w W p0 p1 rb mb A B R M) : Fr5 w W.drew p0 p1 rb mb A B R M := ⟨h.1.drew, h.2⟩
theorem Fr5.call {w W W' : World} {p0 p1 rb mb : Nat} {A B R M : Obj} (h : Fr5 w W p0 p1 rb mb A B R M) (hb : Below W.heap.size W W') : Fr5 w W' p0 p1 rb mb A B R M := ⟨h.1.trans (hb.mono h.1.size), blkM h.2.1 hb, blkM h.2.2.1 hb, blkM h.2.2.2.1 hb, blkM h.2.2.2.2 hb⟩
theorem Fr5.set {w W : World} {p0 p1 rb mb g k : Nat} {A B R M : Obj} (h : Fr5 w W p0 p1 rb mb A B R M) (h0 : p0 ≠ g) (h1 : p1 ≠ g) (h2 : rb ≠ g) (h3 : mb ≠ g) (hg : w.heap.size ≤ g) (x : Value) : Fr5 w (W.setCell ⟨g, k, none⟩ x) p0 p1 rb mb A B R M := ⟨h.1.setCell (p := ⟨g, k, none⟩) hg _, (set_keepM h0 x).trans h.2.1, (set_keepM h1 x).trans h.2.2.1, (set_keepM h2 x).trans h.2.2.2.1, (set_keepM h3 x).trans h.2.2.2.2⟩
end Go.Proofs.Ythakhmnlpmfdgaa

namespace Go.Proofs.Ythakhmnlpmfdgaa
open Go.RowKit Go.IntWalk

end Go.Proofs.Ythakhmnlpmfdgaa

namespace Go.Proofs.Ythakhmnlpmfdgaa
open Go.RowKit Go.IntWalk

theorem row_fnM {W : World} {g N : Nat} {o : Nat → Nat} (h : W.rowIs g 28 N (fun k => .float .f64 (o k))) (hlt : ∀ k, k < N → o k < 18446744073709551616) (hmax : N ≤ 9223372036854775807) : FnM W (some ⟨g, 0, none⟩) N N o :=
  Or.inr ⟨g, 0, rfl, h.lt, Nat.le_refl _, hmax, fun k hk => ⟨by rw [Nat.zero_add]; exact h.cell hk, hlt k hk⟩⟩
end Go.Proofs.Ythakhmnlpmfdgaa

namespace Go.Proofs.Ythakhmnlpmfdgaa
open Go.RowKit Go.IntWalk

/-- A list that isn't there beside an error. -/
def NonL (E : Int) : Value := .tuple #[.slice none 0 0, .int .i64 E]
set_option maxRecDepth 4000 in
set_option maxHeartbeats 1000000 in
theorem MulVec_bad (r c : Int) (n m : Nat) (sa sb : Option Addr) (ka kb : Nat) (xs ys : List Nat) (w : World) (ha : FlM w sa n ka xs) (hb : FlM w sb m kb ys) (hn : n ≤ 17592186043904) (hm : m ≤ 17592186043904) (hE : first2 (chkM r c n xs) (lstE m ys) ≠ 0) :
    Calls Try.prog 53 #[MV r c sa n ka, .slice sb m kb] w fun e w' => e = .returned (NonL (first2 (chkM r c n xs) (lstE m ys))) ∧ Below w.heap.size w w' := by
  have HB0 : Hid (Below w.heap.size w (w.alloc (MBox r c sa n ka))) := (Below.refl _ _).alloc (Nat.le_refl _) _
  obtain ⟨z0, z1, z2⟩ := mcells_of (w := w.alloc (MBox r c sa n ka)) (b := w.heap.size) (nblkM _ _)
  obtain ⟨W0, hW0⟩ : ∃ V, Hid (w.alloc (MBox r c sa n ka) = V) := ⟨_, rfl⟩
  rw [hW0.out] at HB0 z0 z1 z2
  have HC := hid (Check_any r c sa n ka xs W0 (ha.below HB0.out) hn)
  have HL := hid (fun W (hW : Below w.heap.size w W) => chkL_any sb m kb ys W (hb.below hW) hm)
  have hW := hW0.out
  unfold MBox at hW
  obtain ⟨C, hC⟩ : ∃ E, Hid (chkM r c n xs = E) := ⟨_, rfl⟩
  obtain ⟨L, hL⟩ : ∃ E, Hid (lstE m ys = E) := ⟨_, rfl⟩
  rw [hC.out] at HC hE
  rw [hL.out] at HL hE
  rw [hC.out, hL.out]
  unfold NonL
  unfold MV at HC ⊢
  clear ha hb hn hm
  by_cases h1 : C = 0
  · subst h1
    have hf : first2 0 L = L := rfl
    rw [hf] at hE ⊢
    have hne : (L != 0) = true := by simpa using hE
    clear hE hf
    go_enter Try.func53, Try.ntmps53
    go_wp2_with fail
    refine HC.out.mono ?_
    rintro e w1 ⟨rfl, hb1⟩
    have HB1 := hid (HB0.out.trans (hb1.mono HB0.out.size))
    clear hb1
    go_wp2_with fail
    refine (HL.out _ HB1.out).mono ?_
    rintro e w2 ⟨rfl, hb2⟩
    have HB2 := hid (HB1.out.trans (hb2.mono HB1.out.size))
    clear hb2
    go_wp2_with fail
    exact bodyPost_ret (v := .tuple #[.slice none 0 0, .int .i64 L]) (by simp [results, Try.results53, go_sem]) rfl ⟨rfl, HB2.out⟩
  · have hf : first2 C L = C := by unfold first2; rw [if_neg h1]
    rw [hf] at hE ⊢
    have hne : (C != 0) = true := by simpa using hE
    clear hE hf h1
    go_enter Try.func53, Try.ntmps53
    go_wp2_with fail
    refine HC.out.mono ?_
    rintro e w1 ⟨rfl, hb1⟩
    have HB1 := hid (HB0.out.trans (hb1.mono HB0.out.size))
    clear hb1
    go_wp2_with fail
    exact bodyPost_ret (v := .tuple #[.slice none 0 0, .int .i64 C]) (by simp [results, Try.results53, go_sem]) rfl ⟨rfl, HB1.out⟩
set_option maxRecDepth 4000 in
set_option maxHeartbeats 1000000 in
theorem MulVec_shape (r c : Int) (n m : Nat) (sa sb : Option Addr) (ka kb : Nat) (xs ys : List Nat) (w : World) (ha : FlM w sa n ka xs) (hb : FlM w sb m kb ys) (hn : n ≤ 17592186043904) (hm : m ≤ 17592186043904) (hC : chkM r c n xs = 0) (hL : lstE m ys = 0) (hs : c ≠ m) :
    Calls Try.prog 53 #[MV r c sa n ka, .slice sb m kb] w fun e w' => e = .returned (NonL 3) ∧ Below w.heap.size w w' := by
  have HB0 : Hid (Below w.heap.size w (w.alloc (MBox r c sa n ka))) := (Below.refl _ _).alloc (Nat.le_refl _) _
  have HN0 := hid (nblkM w (MBox r c sa n ka))
  obtain ⟨z0, z1, z2⟩ := mcells_of (w := w.alloc (MBox r c sa n ka)) (b := w.heap.size) (nblkM _ _)
  obtain ⟨W0, hW0⟩ : ∃ V, Hid (w.alloc (MBox r c sa n ka) = V) := ⟨_, rfl⟩
  rw [hW0.out] at HB0 z0 z1 z2 HN0
  have HC := hid (Check_any r c sa n ka xs W0 (ha.below HB0.out) hn)
  have HL := hid (fun W (hW : Below w.heap.size w W) => chkL_any sb m kb ys W (hb.below hW) hm)
  have hW := hW0.out
  unfold MBox at hW
  rw [hC] at HC
  rw [hL] at HL
  have hne : (c != (m : Int)) = true := by simpa using hs
  unfold NonL
  unfold MV at HC ⊢
  clear ha hb hn hm hC hL hs
  go_enter Try.func53, Try.ntmps53
  go_wp2_with fail
  refine HC.out.mono ?_
  rintro e w1 ⟨rfl, hb1⟩
  have HB1 := hid (HB0.out.trans (hb1.mono HB0.out.size))
  have HN1 := hid (blkM HN0.out hb1)
  clear hb1
  go_wp2_with fail
  refine (HL.out _ HB1.out).mono ?_
  rintro e w2 ⟨rfl, hb2⟩
  have HB2 := hid (HB1.out.trans (hb2.mono HB1.out.size))
  have HN2 := hid (blkM HN1.out hb2)
  obtain ⟨y0, y1, y2⟩ := mcells_of HN2.out
  clear hb2
  go_wp2_with fail
  exact bodyPost_ret (v := .tuple #[.slice none 0 0, .int .i64 3]) (by simp [results, Try.results53, go_sem]) rfl ⟨rfl, HB2.out⟩
/-- What MulVec hands back where all goes together: the numbers, or none beside ErrOver. -/
def AnsL (N g : Nat) (o : Nat → Nat) : Value := .tuple #[if finF N o = true then .slice (some ⟨g, 0, none⟩) N N else .slice none 0 0, .int .i64 (if finF N o = true then 0 else 5)]
set_option maxRecDepth 4000 in
set_option maxHeartbeats 1000000 in
theorem MulVec_ok (r c n m : Nat) (sa sb : Option Addr) (ka kb : Nat) (f g : Nat → Nat) (w : World) (ha : Gd w r c sa n ka f) (hb : FnM w sb m kb g) (hf : finF m g = true) (hs : c = m) :
    Calls Try.prog 53 #[MV r c sa n ka, .slice sb m kb] w fun e w' => (∃ (q : Nat) (o : Nat → Nat), e = .returned (AnsL r q o) ∧ FnM w' (some ⟨q, 0, none⟩) r r o ∧ ∀ i, i < r → canonOf (o i) = dotM (fun k => f (i * c + k)) g c) ∧ Below w.heap.size w w' := by
  have HB0 : Hid (Below w.heap.size w (w.alloc (MBox r c sa n ka))) := (Below.refl _ _).alloc (Nat.le_refl _) _
  have HN0 := hid (nblkM w (MBox r c sa n ka))
  obtain ⟨z0, z1, z2⟩ := mcells_of (w := w.alloc (MBox r c sa n ka)) (b := w.heap.size) (nblkM _ _)
  obtain ⟨W0, hW0⟩ : ∃ V, Hid (w.alloc (MBox r c sa n ka) = V) := ⟨_, rfl⟩
  rw [hW0.out] at HB0 z0 z1 z2 HN0
  have l1 := ha.1
  have l2 := ha.2.1
  have HC := hid (Check_any r c sa n ka _ W0 (ha.below HB0.out).2.2.2.1.fl (by have := ha.le; omega))
  rw [ha.chk] at HC
  have HL := hid (fun W (hW : Below w.heap.size w W) => chkL_any sb m kb _ W (hb.below hW).fl (by omega))
  have hl0 : lstE m ((List.range m).map g) = 0 := by
    unfold lstE
    rw [if_neg (by omega), if_neg (by have := hf; unfold finF at this; rw [this]; simp)]
  rw [hl0] at HL
  have HR : Hid (∀ W, Below w.heap.size w W → Calls Try.prog 77 #[.agg #[.int .i64 r, .int .i64 c, .slice sa n ka], .agg #[.int .i64 1, .int .i64 m, .slice sb m kb]] W fun e w' => FillR (fun i j x => canonOf x = dotM (fun k => f (i * c + k)) (fun k => g (j * c + k)) c) r 1 (r * 1) W.heap.size e w' ∧ Below W.heap.size W w') := fun W hW => by
    subst hs
    exact byRows_any r 1 c n c sa sb ka kb f g W (ha.below hW).2.2.2.1 (hb.below hW) (by rw [ha.2.2.1]; exact Nat.le_refl _) (by omega) (by omega) (by omega) (by omega)
  have HM : Hid (r * 1 ≤ 9223372036854775807) := by show _ ≤ _; omega
  have HL1 := hid l1
  have hne : ((c : Int) != (m : Int)) = false := by rw [hs]; simp
  have hW := hW0.out
  unfold MBox at hW
  unfold MV at HC ⊢
  clear ha hb hf hs l1 l2 hl0
  go_enter Try.func53, Try.ntmps53
  go_wp2_with fail
  refine HC.out.mono ?_
  rintro e w1 ⟨rfl, hb1⟩
  have HB1 := hid (HB0.out.trans (hb1.mono HB0.out.size))
  have HN1 := hid (blkM HN0.out hb1)
  clear hb1
  go_wp2_with fail
  refine (HL.out _ HB1.out).mono ?_
  rintro e w2 ⟨rfl, hb2⟩
  have HB2 := hid (HB1.out.trans (hb2.mono HB1.out.size))
  have HN2 := hid (blkM HN1.out hb2)
  obtain ⟨y0, y1, y2⟩ := mcells_of HN2.out
  clear hb2
  go_wp2_with fail
  refine (HR.out _ HB2.out).mono ?_
  rintro e u1 ⟨hfi, hb3⟩
  obtain ⟨q, o, rfl, hq, hfn, hP⟩ := hfi.fn HM.out
  have HB3 := hid (HB2.out.trans (hb3.mono HB2.out.size))
  have HF := hid hfn
  have HP : Hid (∀ i, i < r → canonOf (o i) = dotM (fun k => f (i * c + k)) g c) := fun i hi => by
    have := hP i 0 hi (by omega)
    rw [show i * 1 + 0 = i by omega] at this
    rw [this]
    exact dotM_congr c (fun _ _ => rfl) (fun k _ => by rw [show 0 * c + k = k by omega])
  rw [Nat.mul_one] at HF
  unfold MV
  clear hfi hb3 hq hfn hP
  rw [Nat.mul_one]
  go_wp2_with fail
  refine (answered_any r 1 r _ r o u1 HF.out (by have := HL1.out; omega)).mono ?_
  rintro e u2 ⟨rfl, hk, hb4⟩
  have HB4 := hid (HB3.out.trans (hb4.mono HB3.out.size))
  have HF2 := hid (hk _ _ _ _ HF.out)
  obtain ⟨X0, X1, X2, X3, X4, hXX⟩ : ∃ a b s m k, Hid ((if finF r o = true then MV r 1 (some ⟨q, 0, none⟩) r r else MV 0 0 none 0 0) = MV a b s m k ∧ (if finF r o = true then .slice (some ⟨q, 0, none⟩) r r else .slice none 0 0 : Value) = .slice s m k) := by
    by_cases c : finF r o = true
    · exact ⟨r, 1, some ⟨q, 0, none⟩, r, r, by show _ ∧ _; rw [if_pos c, if_pos c]; exact ⟨rfl, rfl⟩⟩
    · exact ⟨0, 0, none, 0, 0, by show _ ∧ _; rw [if_neg c, if_neg c]; exact ⟨rfl, rfl⟩⟩
  obtain ⟨E, hE⟩ : ∃ E, Hid ((if finF r o = true then 0 else 5 : Int) = E) := ⟨_, rfl⟩
  have HA : Hid (AnsL r q o = .tuple #[.slice X2 X3 X4, .int .i64 E]) := by show _ = _; unfold AnsL; rw [hXX.out.2, hE.out]
  rw [hXX.out.1, hE.out]
  unfold MV
  clear hk hb4
  go_wp2_with fail
  exact bodyPost_ret (v := .tuple #[.slice X2 X3 X4, .int .i64 E]) (by simp [results, Try.results53, go_sem]) rfl ⟨⟨q, o, by rw [HA.out], HF2.out.below ((Below.refl _ _).alloc (Nat.le_refl _) _), HP.out⟩, HB4.out.trans (((Below.refl _ _).alloc (Nat.le_refl _) _).mono HB4.out.size)⟩
end Go.Proofs.Ythakhmnlpmfdgaa
