
/- matrix.MulVec of any matrix and any list. -/
import Derived.Test.YtfngjoaghbofgaaP32
namespace Go.Proofs.Ytfngjoaghbofgaa
open Go.RowKit Go.IntWalk

/-- A list that isn't there beside an error. -/
def NonL (E : Int) : Value := .tuple #[.slice none 0 0, .int .i64 E]
set_option maxRecDepth 4000 in
set_option maxHeartbeats 1000000 in
theorem MulVec_bad (r c : Int) (n m : Nat) (sa sb : Option Addr) (ka kb : Nat) (xs ys : List Nat) (w : World) (ha : FlM w sa n ka xs) (hb : FlM w sb m kb ys) (hn : n ≤ 17592186043904) (hm : m ≤ 17592186043904) (hE : first2 (chkM r c n xs) (lstE m ys) ≠ 0) :
    Calls Try.prog 46 #[MV r c sa n ka, .slice sb m kb] w fun e w' => e = .returned (NonL (first2 (chkM r c n xs) (lstE m ys))) ∧ Below w.heap.size w w' := by
  have HB0 : Hid (Below w.heap.size w (w.alloc (MBox r c sa n ka))) := (Below.refl _ _).alloc (Nat.le_refl _) _
  obtain ⟨z0, z1, z2⟩ := mcells_of (w := w.alloc (MBox r c sa n ka)) (b := w.heap.size) (nblkM _ _)
  obtain ⟨W0, hW0⟩ : ∃ V, Hid (w.alloc (MBox r c sa n ka) = V) := ⟨_, rfl⟩
  rw [hW0.out] at HB0 z0 z1 z2
  have HC := hid (Check_any r c sa n ka xs W0 (ha.below HB0.out) hn)
  have HL := hid (fun W (hW : Below w.heap.size w W) => chkL_any sb m kb ys W (hb.below hW) hm)
  have hW := hW0.out
  unfold MBox at hW
  obtain ⟨C, hC⟩ : ∃ E, Hid (chkM r c n xs = E) := ⟨_, rfl⟩
  obtain ⟨L, hL⟩ : ∃ E, Hid (lstE m ys = E) := ⟨_, rfl⟩
  rw [hC.out] at HC hE
  rw [hL.out] at HL hE
  rw [hC.out, hL.out]
  unfold NonL
  unfold MV at HC ⊢
  clear ha hb hn hm
  by_cases h1 : C = 0
  · subst h1
    have hf : first2 0 L = L := rfl
    rw [hf] at hE ⊢
    have hne : (L != 0) = true := by simpa using hE
    clear hE hf
    go_enter Try.func46, Try.ntmps46
    go_wp2_with fail
    refine HC.out.mono ?_
    rintro e w1 ⟨rfl, hb1⟩
    have HB1 := hid (HB0.out.trans (hb1.mono HB0.out.size))
    clear hb1
    go_wp2_with fail
    refine (HL.out _ HB1.out).mono ?_
    rintro e w2 ⟨rfl, hb2⟩
    have HB2 := hid (HB1.out.trans (hb2.mono HB1.out.size))
    clear hb2
    go_wp2_with fail
    exact bodyPost_ret (v := .tuple #[.slice none 0 0, .int .i64 L]) (by simp [results, Try.results46, go_sem]) rfl ⟨rfl, HB2.out⟩
  · have hf : first2 C L = C := by unfold first2; rw [if_neg h1]
    rw [hf] at hE ⊢
    have hne : (C != 0) = true := by simpa using hE
    clear hE hf h1
    go_enter Try.func46, Try.ntmps46
    go_wp2_with fail
    refine HC.out.mono ?_
    rintro e w1 ⟨rfl, hb1⟩
    have HB1 := hid (HB0.out.trans (hb1.mono HB0.out.size))
    clear hb1
    go_wp2_with fail
    exact bodyPost_ret (v := .tuple #[.slice none 0 0, .int .i64 C]) (by simp [results, Try.results46, go_sem]) rfl ⟨rfl, HB1.out⟩
set_option maxRecDepth 4000 in
set_option maxHeartbeats 1000000 in
theorem MulVec_shape (r c : Int) (n m : Nat) (sa sb : Option Addr) (ka kb : Nat) (xs ys : List Nat) (w : World) (ha : FlM w sa n ka xs) (hb : FlM w sb m kb ys) (hn : n ≤ 17592186043904) (hm : m ≤ 17592186043904) (hC : chkM r c n xs = 0) (hL : lstE m ys = 0) (hs : c ≠ m) :
    Calls Try.prog 46 #[MV r c sa n ka, .slice sb m kb] w fun e w' => e = .returned (NonL 3) ∧ Below w.heap.size w w' := by
  have HB0 : Hid (Below w.heap.size w (w.alloc (MBox r c sa n ka))) := (Below.refl _ _).alloc (Nat.le_refl _) _
  have HN0 := hid (nblkM w (MBox r c sa n ka))
  obtain ⟨z0, z1, z2⟩ := mcells_of (w := w.alloc (MBox r c sa n ka)) (b := w.heap.size) (nblkM _ _)
  obtain ⟨W0, hW0⟩ : ∃ V, Hid (w.alloc (MBox r c sa n ka) = V) := ⟨_, rfl⟩
  rw [hW0.out] at HB0 z0 z1 z2 HN0
  have HC := hid (Check_any r c sa n ka xs W0 (ha.below HB0.out) hn)
  have HL := hid (fun W (hW : Below w.heap.size w W) => chkL_any sb m kb ys W (hb.below hW) hm)
  have hW := hW0.out
  unfold MBox at hW
  rw [hC] at HC
  rw [hL] at HL
  have hne : (c != (m : Int)) = true := by simpa using hs
  unfold NonL
  unfold MV at HC ⊢
  clear ha hb hn hm hC hL hs
  go_enter Try.func46, Try.ntmps46
  go_wp2_with fail
  refine HC.out.mono ?_
  rintro e w1 ⟨rfl, hb1⟩
  have HB1 := hid (HB0.out.trans (hb1.mono HB0.out.size))
  have HN1 := hid (blkM HN0.out hb1)
  clear hb1
  go_wp2_with fail
  refine (HL.out _ HB1.out).mono ?_
  rintro e w2 ⟨rfl, hb2⟩
  have HB2 := hid (HB1.out.trans (hb2.mono HB1.out.size))
  have HN2 := hid (blkM HN1.out hb2)
  obtain ⟨y0, y1, y2⟩ := mcells_of HN2.out
  clear hb2
  go_wp2_with fail
  exact bodyPost_ret (v := .tuple #[.slice none 0 0, .int .i64 3]) (by simp [results, Try.results46, go_sem]) rfl ⟨rfl, HB2.out⟩
/-- What MulVec hands back where all goes together: the numbers, or none beside ErrOver. -/
def AnsL (N g : Nat) (o : Nat → Nat) : Value := .tuple #[if finF N o = true then .slice (some ⟨g, 0, none⟩) N N else .slice none 0 0, .int .i64 (if finF N o = true then 0 else 5)]
set_option maxRecDepth 4000 in
set_option maxHeartbeats 1000000 in
theorem MulVec_ok (r c n m : Nat) (sa sb : Option Addr) (ka kb : Nat) (f g : Nat → Nat) (w : World) (ha : Gd w r c sa n ka f) (hb : FnM w sb m kb g) (hf : finF m g = true) (hs : c = m) :
    Calls Try.prog 46 #[MV r c sa n ka, .slice sb m kb] w fun e w' => (∃ (q : Nat) (o : Nat → Nat), e = .returned (AnsL r q o) ∧ FnM w' (some ⟨q, 0, none⟩) r r o ∧ ∀ i, i < r → canonOf (o i) = dotM (fun k => f (i * c + k)) g c) ∧ Below w.heap.size w w' := by
  have HB0 : Hid (Below w.heap.size w (w.alloc (MBox r c sa n ka))) := (Below.refl _ _).alloc (Nat.le_refl _) _
  have HN0 := hid (nblkM w (MBox r c sa n ka))
  obtain ⟨z0, z1, z2⟩ := mcells_of (w := w.alloc (MBox r c sa n ka)) (b := w.heap.size) (nblkM _ _)
  obtain ⟨W0, hW0⟩ : ∃ V, Hid (w.alloc (MBox r c sa n ka) = V) := ⟨_, rfl⟩
  rw [hW0.out] at HB0 z0 z1 z2 HN0
  have l1 := ha.1
  have l2 := ha.2.1
  have HC := hid (Check_any r c sa n ka _ W0 (ha.below HB0.out).2.2.2.1.fl (by have := ha.le; omega))
  rw [ha.chk] at HC
  have HL := hid (fun W (hW : Below w.heap.size w W) => chkL_any sb m kb _ W (hb.below hW).fl (by omega))
  have hl0 : lstE m ((List.range m).map g) = 0 := by
    unfold lstE
    rw [if_neg (by omega), if_neg (by have := hf; unfold finF at this; rw [this]; simp)]
  rw [hl0] at HL
  have HR : Hid (∀ W, Below w.heap.size w W → Calls Try.prog 66 #[.agg #[.int .i64 r, .int .i64 c, .slice sa n ka], .agg #[.int .i64 1, .int .i64 m, .slice sb m kb]] W fun e w' => FillR (fun i j x => canonOf x = dotM (fun k => f (i * c + k)) (fun k => g (j * c + k)) c) r 1 (r * 1) W.heap.size e w' ∧ Below W.heap.size W w') := fun W hW => by
    subst hs
    exact byRows_any r 1 c n c sa sb ka kb f g W (ha.below hW).2.2.2.1 (hb.below hW) (by rw [ha.2.2.1]; exact Nat.le_refl _) (by omega) (by omega) (by omega) (by omega)
  have HM : Hid (r * 1 ≤ 9223372036854775807) := by show _ ≤ _; omega
  have HL1 := hid l1
  have hne : ((c : Int) != (m : Int)) = false := by rw [hs]; simp
  have hW := hW0.out
  unfold MBox at hW
  unfold MV at HC ⊢
  clear ha hb hf hs l1 l2 hl0
  go_enter Try.func46, Try.ntmps46
  go_wp2_with fail
  refine HC.out.mono ?_
  rintro e w1 ⟨rfl, hb1⟩
  have HB1 := hid (HB0.out.trans (hb1.mono HB0.out.size))
  have HN1 := hid (blkM HN0.out hb1)
  clear hb1
  go_wp2_with fail
  refine (HL.out _ HB1.out).mono ?_
  rintro e w2 ⟨rfl, hb2⟩
  have HB2 := hid (HB1.out.trans (hb2.mono HB1.out.size))
  have HN2 := hid (blkM HN1.out hb2)
  obtain ⟨y0, y1, y2⟩ := mcells_of HN2.out
  clear hb2
  go_wp2_with fail
  refine (HR.out _ HB2.out).mono ?_
  rintro e u1 ⟨hfi, hb3⟩
  obtain ⟨q, o, rfl, hq, hfn, hP⟩ := hfi.fn HM.out
  have HB3 := hid (HB2.out.trans (hb3.mono HB2.out.size))
  have HF := hid hfn
  have HP : Hid (∀ i, i < r → canonOf (o i) = dotM (fun k => f (i * c + k)) g c) := fun i hi => by
    have := hP i 0 hi (by omega)
    rw [show i * 1 + 0 = i by omega] at this
    rw [this]
    exact dotM_congr c (fun _ _ => rfl) (fun k _ => by rw [show 0 * c + k = k by omega])
  rw [Nat.mul_one] at HF
  unfold MV
  clear hfi hb3 hq hfn hP
  rw [Nat.mul_one]
  go_wp2_with fail
  refine (answered_any r 1 r _ r o u1 HF.out (by have := HL1.out; omega)).mono ?_
  rintro e u2 ⟨rfl, hk, hb4⟩
  have HB4 := hid (HB3.out.trans (hb4.mono HB3.out.size))
  have HF2 := hid (hk _ _ _ _ HF.out)
  obtain ⟨X0, X1, X2, X3, X4, hXX⟩ : ∃ a b s m k, Hid ((if finF r o = true then MV r 1 (some ⟨q, 0, none⟩) r r else MV 0 0 none 0 0) = MV a b s m k ∧ (if finF r o = true then .slice (some ⟨q, 0, none⟩) r r else .slice none 0 0 : Value) = .slice s m k) := by
    by_cases c : finF r o = true
    · exact ⟨r, 1, some ⟨q, 0, none⟩, r, r, by show _ ∧ _; rw [if_pos c, if_pos c]; exact ⟨rfl, rfl⟩⟩
    · exact ⟨0, 0, none, 0, 0, by show _ ∧ _; rw [if_neg c, if_neg c]; exact ⟨rfl, rfl⟩⟩
  obtain ⟨E, hE⟩ : ∃ E, Hid ((if finF r o = true then 0 else 5 : Int) = E) := ⟨_, rfl⟩
  have HA : Hid (AnsL r q o = .tuple #[.slice X2 X3 X4, .int .i64 E]) := by show _ = _; unfold AnsL; rw [hXX.out.2, hE.out]
  rw [hXX.out.1, hE.out]
  unfold MV
  clear hk hb4
  go_wp2_with fail
  exact bodyPost_ret (v := .tuple #[.slice X2 X3 X4, .int .i64 E]) (by simp [results, Try.results46, go_sem]) rfl ⟨⟨q, o, by rw [HA.out], HF2.out.below ((Below.refl _ _).alloc (Nat.le_refl _) _), HP.out⟩, HB4.out.trans (((Below.refl _ _).alloc (Nat.le_refl _) _).mono HB4.out.size)⟩
end Go.Proofs.Ytfngjoaghbofgaa
