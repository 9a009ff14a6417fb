
/- The document's At, Put, Row, Col; the law's of, told, list, same. -/
import Derived.Test.YtfngjoaghbofgabDoorP30
namespace Go.Proofs.YtfngjoaghbofgabDoor
open Go.RowKit Go.IntWalk

/-- Numbers in memory of one's own. -/
def OwM (W : World) (B : Nat) (ta : Option Addr) (n cap : Nat) (xs : List Nat) : Prop := FlM W ta n cap xs ∧ (n = 0 ∨ ∃ g, ta = some ⟨g, 0, none⟩ ∧ B ≤ g ∧ ∀ k, W.frozen? ⟨g, k, none⟩ = false)
theorem OwM.mono {W : World} {B B' : Nat} {ta : Option Addr} {n cap : Nat} {xs : List Nat} (h : OwM W B ta n cap xs) (hb : B' ≤ B) : OwM W B' ta n cap xs := by
  rcases h.2 with h2 | ⟨g, h1, h2, h3⟩
  · exact ⟨h.1, Or.inl h2⟩
  · exact ⟨h.1, Or.inr ⟨g, h1, Nat.le_trans hb h2, h3⟩⟩
theorem fl_lt {W : World} {g n cap : Nat} {xs : List Nat} (h : FlM W (some ⟨g, 0, none⟩) n cap xs) : g < W.heap.size := by
  rcases h.2.2 with ⟨h1, _⟩ | ⟨b, off, h1, h2, _⟩
  · cases h1
  · simp only [Option.some.injEq, Addr.mk.injEq] at h1
    rw [h1.1]; exact h2
theorem OwM.below {W W' : World} {B : Nat} {ta : Option Addr} {n cap : Nat} {xs : List Nat} (h : OwM W B ta n cap xs) (hb : Below W.heap.size W W') : OwM W' B ta n cap xs := by
  refine ⟨h.1.below hb, ?_⟩
  rcases h.2 with h2 | ⟨g, h1, h2, h3⟩
  · exact Or.inl h2
  · subst h1
    exact Or.inr ⟨g, rfl, h2, fun k => (World.frozen?_of_block (hb.block g (fl_lt h.1))).trans (h3 k)⟩
theorem fl_cell {W : World} {g n cap : Nat} {xs : List Nat} (h : FlM W (some ⟨g, 0, none⟩) n cap xs) (hn : n ≠ 0) : ∃ x, W.cell? ⟨g, 0, none⟩ = some (.float .f64 x) := by
  rcases h.2.2 with ⟨h1, _⟩ | ⟨b, off, h1, _, _, _, h2⟩
  · cases h1
  · simp only [Option.some.injEq, Addr.mk.injEq, and_true] at h1
    obtain ⟨rfl, rfl⟩ := h1
    exact ⟨_, h2 0 (by omega)⟩
theorem fl_ne {W : World} {g n cap b : Nat} {xs : List Nat} {r0 c0 : Int} {s0 : Option Addr} {n0 k0 : Nat} (h : FlM W (some ⟨g, 0, none⟩) n cap xs) (hn : n ≠ 0) (hb : W.heap[b]? = some (MBox r0 c0 s0 n0 k0)) : g ≠ b := fun hc => by
  subst hc
  obtain ⟨x, hx⟩ := fl_cell h hn
  rw [(mcells_of hb).1] at hx
  cases hx
theorem OwM.sto {W : World} {B : Nat} {ta : Option Addr} {n cap : Nat} {xs : List Nat} (h : OwM W B ta n cap xs) {b : Nat} {r c r0 c0 : Int} {s s0 : Option Addr} {m k n0 k0 : Nat} (hb : W.heap[b]? = some (MBox r0 c0 s0 n0 k0)) : OwM (StoM W b r c s m k) B ta n cap xs := by
  refine ⟨sto_fl h.1 hb, ?_⟩
  by_cases hn : n = 0
  · exact Or.inl hn
  rcases h.2 with h2 | ⟨g, h1, h2, h3⟩
  · exact absurd h2 hn
  · subst h1
    exact Or.inr ⟨g, rfl, h2, fun k => (World.frozen?_of_block (StoM.keep (fl_ne h.1 hn hb))).trans (h3 k)⟩
theorem l_own (sa : Option Addr) (sn sc : Nat) (xs : List Nat) (w : World) (hu : U64At w sa sn xs) (hn : sn ≤ 17592186043904) :
    Calls Tryd.prog 7 #[.slice sa sn sc] w fun r w' => ∃ ta cap, r = .returned (.slice ta sn cap) ∧ OwM w' w.heap.size ta sn cap xs ∧ Below w.heap.size w w' := by
  refine (Of64_any sa sn sc xs w hu hn).mono ?_
  rintro r w' ⟨v, rfl, h1, h2, h3⟩
  by_cases c : xs = []
  · obtain rfl := h2 c
    subst c
    have h0 : sn = 0 := hu.1.symm
    subst h0
    exact ⟨none, 0, rfl, ⟨⟨rfl, fun x hx => (by cases hx), Or.inl ⟨rfl, rfl, rfl⟩⟩, Or.inl rfl⟩, h3⟩
  · rcases h1.2 with ⟨_, e⟩ | ⟨g, cap, cur, rfl, k1, k2, k3, k4, k5, k6⟩
    · exact absurd (List.length_eq_zero_iff.1 e) c
    · rw [hu.1] at k3 ⊢
      refine ⟨_, cap, rfl, ⟨⟨hu.1, hu.2.1, Or.inr ⟨g, 0, rfl, (Array.getElem?_eq_some_iff.1 k2).1, k3, k4, fun j hj => ?_⟩⟩, Or.inr ⟨g, rfl, k1, fun j => frozen_of_row w' g j cur _ k2⟩⟩, h3⟩
      have e1 : (cur.toList.take (xs.length * 1))[j]? = (xs.map (Value.float .f64))[j]? := by rw [k6]
      have hj2 : j < xs.length := by rw [hu.1]; exact hj
      rw [List.getElem?_take, if_pos (by omega), List.getElem?_map, List.getElem?_eq_getElem hj2] at e1
      have e2 : cur[j]? = some (.float .f64 (xs.getD j 0)) := by
        rw [← Array.getElem?_toList, e1, List.getD_eq_getElem?_getD, List.getElem?_eq_getElem hj2]
        rfl
      rw [Nat.zero_add]
      simp [World.cell?, k2, e2]
end Go.Proofs.YtfngjoaghbofgabDoor

namespace Go.Proofs.YtfngjoaghbofgabDoor
open Go.RowKit Go.IntWalk

theorem ownsq_kept {w w' : World} {base : Nat} {v : Value} {xs : List Nat} (h : Owns w base v xs) (hb : Below w.heap.size w w') : Owns w' base v xs := by
  obtain ⟨h1, h2 | ⟨g, cap, cur, e1, e2, e3, e4⟩⟩ := h
  · exact ⟨h1, .inl h2⟩
  · exact ⟨h1, .inr ⟨g, cap, cur, e1, e2, (hb.block g (Array.getElem?_eq_some_iff.1 e3).1).trans e3, e4⟩⟩
end Go.Proofs.YtfngjoaghbofgabDoor

namespace Go.Proofs.YtfngjoaghbofgabDoor
open Go.RowKit Go.IntWalk

end Go.Proofs.YtfngjoaghbofgabDoor

namespace Go.Proofs.YtfngjoaghbofgabDoor
open Go.RowKit Go.IntWalk

/-- Four variables as they were laid. -/
def Fr5 (w W : World) (p0 p1 rb mb : Nat) (A B R M : Obj) : Prop := Below w.heap.size w W ∧ W.heap[p0]? = some A ∧ W.heap[p1]? = some B ∧ W.heap[rb]? = some R ∧ W.heap[mb]? = some M
theorem Fr5.drew {w W : World} {p0 p1 rb mb : Nat} {A B R M : Obj} (h : Fr5 w W p0 p1 rb mb A B R M) : Fr5 w W.drew p0 p1 rb mb A B R M := ⟨h.1.drew, h.2⟩
theorem Fr5.call {w W W' : World} {p0 p1 rb mb : Nat} {A B R M : Obj} (h : Fr5 w W p0 p1 rb mb A B R M) (hb : Below W.heap.size W W') : Fr5 w W' p0 p1 rb mb A B R M := ⟨h.1.trans (hb.mono h.1.size), blkM h.2.1 hb, blkM h.2.2.1 hb, blkM h.2.2.2.1 hb, blkM h.2.2.2.2 hb⟩
theorem Fr5.set {w W : World} {p0 p1 rb mb g k : Nat} {A B R M : Obj} (h : Fr5 w W p0 p1 rb mb A B R M) (h0 : p0 ≠ g) (h1 : p1 ≠ g) (h2 : rb ≠ g) (h3 : mb ≠ g) (hg : w.heap.size ≤ g) (x : Value) : Fr5 w (W.setCell ⟨g, k, none⟩ x) p0 p1 rb mb A B R M := ⟨h.1.setCell (p := ⟨g, k, none⟩) hg _, (set_keepM h0 x).trans h.2.1, (set_keepM h1 x).trans h.2.2.1, (set_keepM h2 x).trans h.2.2.2.1, (set_keepM h3 x).trans h.2.2.2.2⟩
end Go.Proofs.YtfngjoaghbofgabDoor

namespace Go.Proofs.YtfngjoaghbofgabDoor
open Go.RowKit Go.IntWalk

end Go.Proofs.YtfngjoaghbofgabDoor

namespace Go.Proofs.YtfngjoaghbofgabDoor
open Go.RowKit Go.IntWalk

theorem row_fnM {W : World} {g N : Nat} {o : Nat → Nat} (h : W.rowIs g 37 N (fun k => .float .f64 (o k))) (hlt : ∀ k, k < N → o k < 18446744073709551616) (hmax : N ≤ 9223372036854775807) : FnM W (some ⟨g, 0, none⟩) N N o :=
  Or.inr ⟨g, 0, rfl, h.lt, Nat.le_refl _, hmax, fun k hk => ⟨by rw [Nat.zero_add]; exact h.cell hk, hlt k hk⟩⟩
end Go.Proofs.YtfngjoaghbofgabDoor

namespace Go.Proofs.YtfngjoaghbofgabDoor
open Go.RowKit Go.IntWalk

/-- A list that isn't there beside an error. -/
def NonL (E : Int) : Value := .tuple #[.slice none 0 0, .int .i64 E]
set_option maxRecDepth 4000 in
set_option maxHeartbeats 1000000 in
theorem MulVec_bad (r c : Int) (n m : Nat) (sa sb : Option Addr) (ka kb : Nat) (xs ys : List Nat) (w : World) (ha : FlM w sa n ka xs) (hb : FlM w sb m kb ys) (hn : n ≤ 17592186043904) (hm : m ≤ 17592186043904) (hE : first2 (chkM r c n xs) (lstE m ys) ≠ 0) :
    Calls Tryd.prog 34 #[MV r c sa n ka, .slice sb m kb] w fun e w' => e = .returned (NonL (first2 (chkM r c n xs) (lstE m ys))) ∧ Below w.heap.size w w' := by
  have HB0 : Hid (Below w.heap.size w (w.alloc (MBox r c sa n ka))) := (Below.refl _ _).alloc (Nat.le_refl _) _
  obtain ⟨z0, z1, z2⟩ := mcells_of (w := w.alloc (MBox r c sa n ka)) (b := w.heap.size) (nblkM _ _)
  obtain ⟨W0, hW0⟩ : ∃ V, Hid (w.alloc (MBox r c sa n ka) = V) := ⟨_, rfl⟩
  rw [hW0.out] at HB0 z0 z1 z2
  have HC := hid (Check_any r c sa n ka xs W0 (ha.below HB0.out) hn)
  have HL := hid (fun W (hW : Below w.heap.size w W) => chkL_any sb m kb ys W (hb.below hW) hm)
  have hW := hW0.out
  unfold MBox at hW
  obtain ⟨C, hC⟩ : ∃ E, Hid (chkM r c n xs = E) := ⟨_, rfl⟩
  obtain ⟨L, hL⟩ : ∃ E, Hid (lstE m ys = E) := ⟨_, rfl⟩
  rw [hC.out] at HC hE
  rw [hL.out] at HL hE
  rw [hC.out, hL.out]
  unfold NonL
  unfold MV at HC ⊢
  clear ha hb hn hm
  by_cases h1 : C = 0
  · subst h1
    have hf : first2 0 L = L := rfl
    rw [hf] at hE ⊢
    have hne : (L != 0) = true := by simpa using hE
    clear hE hf
    go_enter Tryd.func34, Tryd.ntmps34
    go_wp2_with fail
    refine HC.out.mono ?_
    rintro e w1 ⟨rfl, hb1⟩
    have HB1 := hid (HB0.out.trans (hb1.mono HB0.out.size))
    clear hb1
    go_wp2_with fail
    refine (HL.out _ HB1.out).mono ?_
    rintro e w2 ⟨rfl, hb2⟩
    have HB2 := hid (HB1.out.trans (hb2.mono HB1.out.size))
    clear hb2
    go_wp2_with fail
    exact bodyPost_ret (v := .tuple #[.slice none 0 0, .int .i64 L]) (by simp [results, Tryd.results34, go_sem]) rfl ⟨rfl, HB2.out⟩
  · have hf : first2 C L = C := by unfold first2; rw [if_neg h1]
    rw [hf] at hE ⊢
    have hne : (C != 0) = true := by simpa using hE
    clear hE hf h1
    go_enter Tryd.func34, Tryd.ntmps34
    go_wp2_with fail
    refine HC.out.mono ?_
    rintro e w1 ⟨rfl, hb1⟩
    have HB1 := hid (HB0.out.trans (hb1.mono HB0.out.size))
    clear hb1
    go_wp2_with fail
    exact bodyPost_ret (v := .tuple #[.slice none 0 0, .int .i64 C]) (by simp [results, Tryd.results34, go_sem]) rfl ⟨rfl, HB1.out⟩
set_option maxRecDepth 4000 in
set_option maxHeartbeats 1000000 in
theorem MulVec_shape (r c : Int) (n m : Nat) (sa sb : Option Addr) (ka kb : Nat) (xs ys : List Nat) (w : World) (ha : FlM w sa n ka xs) (hb : FlM w sb m kb ys) (hn : n ≤ 17592186043904) (hm : m ≤ 17592186043904) (hC : chkM r c n xs = 0) (hL : lstE m ys = 0) (hs : c ≠ m) :
    Calls Tryd.prog 34 #[MV r c sa n ka, .slice sb m kb] w fun e w' => e = .returned (NonL 3) ∧ Below w.heap.size w w' := by
  have HB0 : Hid (Below w.heap.size w (w.alloc (MBox r c sa n ka))) := (Below.refl _ _).alloc (Nat.le_refl _) _
  have HN0 := hid (nblkM w (MBox r c sa n ka))
  obtain ⟨z0, z1, z2⟩ := mcells_of (w := w.alloc (MBox r c sa n ka)) (b := w.heap.size) (nblkM _ _)
  obtain ⟨W0, hW0⟩ : ∃ V, Hid (w.alloc (MBox r c sa n ka) = V) := ⟨_, rfl⟩
  rw [hW0.out] at HB0 z0 z1 z2 HN0
  have HC := hid (Check_any r c sa n ka xs W0 (ha.below HB0.out) hn)
  have HL := hid (fun W (hW : Below w.heap.size w W) => chkL_any sb m kb ys W (hb.below hW) hm)
  have hW := hW0.out
  unfold MBox at hW
  rw [hC] at HC
  rw [hL] at HL
  have hne : (c != (m : Int)) = true := by simpa using hs
  unfold NonL
  unfold MV at HC ⊢
  clear ha hb hn hm hC hL hs
  go_enter Tryd.func34, Tryd.ntmps34
  go_wp2_with fail
  refine HC.out.mono ?_
  rintro e w1 ⟨rfl, hb1⟩
  have HB1 := hid (HB0.out.trans (hb1.mono HB0.out.size))
  have HN1 := hid (blkM HN0.out hb1)
  clear hb1
  go_wp2_with fail
  refine (HL.out _ HB1.out).mono ?_
  rintro e w2 ⟨rfl, hb2⟩
  have HB2 := hid (HB1.out.trans (hb2.mono HB1.out.size))
  have HN2 := hid (blkM HN1.out hb2)
  obtain ⟨y0, y1, y2⟩ := mcells_of HN2.out
  clear hb2
  go_wp2_with fail
  exact bodyPost_ret (v := .tuple #[.slice none 0 0, .int .i64 3]) (by simp [results, Tryd.results34, go_sem]) rfl ⟨rfl, HB2.out⟩
/-- What MulVec hands back where all goes together: the numbers, or none beside ErrOver. -/
def AnsL (N g : Nat) (o : Nat → Nat) : Value := .tuple #[if finF N o = true then .slice (some ⟨g, 0, none⟩) N N else .slice none 0 0, .int .i64 (if finF N o = true then 0 else 5)]
set_option maxRecDepth 4000 in
set_option maxHeartbeats 1000000 in
theorem MulVec_ok (r c n m : Nat) (sa sb : Option Addr) (ka kb : Nat) (f g : Nat → Nat) (w : World) (ha : Gd w r c sa n ka f) (hb : FnM w sb m kb g) (hf : finF m g = true) (hs : c = m) :
    Calls Tryd.prog 34 #[MV r c sa n ka, .slice sb m kb] w fun e w' => (∃ (q : Nat) (o : Nat → Nat), e = .returned (AnsL r q o) ∧ FnM w' (some ⟨q, 0, none⟩) r r o ∧ ∀ i, i < r → canonOf (o i) = dotM (fun k => f (i * c + k)) g c) ∧ Below w.heap.size w w' := by
  have HB0 : Hid (Below w.heap.size w (w.alloc (MBox r c sa n ka))) := (Below.refl _ _).alloc (Nat.le_refl _) _
  have HN0 := hid (nblkM w (MBox r c sa n ka))
  obtain ⟨z0, z1, z2⟩ := mcells_of (w := w.alloc (MBox r c sa n ka)) (b := w.heap.size) (nblkM _ _)
  obtain ⟨W0, hW0⟩ : ∃ V, Hid (w.alloc (MBox r c sa n ka) = V) := ⟨_, rfl⟩
  rw [hW0.out] at HB0 z0 z1 z2 HN0
  have l1 := ha.1
  have l2 := ha.2.1
  have HC := hid (Check_any r c sa n ka _ W0 (ha.below HB0.out).2.2.2.1.fl (by have := ha.le; omega))
  rw [ha.chk] at HC
  have HL := hid (fun W (hW : Below w.heap.size w W) => chkL_any sb m kb _ W (hb.below hW).fl (by omega))
  have hl0 : lstE m ((List.range m).map g) = 0 := by
    unfold lstE
    rw [if_neg (by omega), if_neg (by have := hf; unfold finF at this; rw [this]; simp)]
  rw [hl0] at HL
  have HR : Hid (∀ W, Below w.heap.size w W → Calls Tryd.prog 58 #[.agg #[.int .i64 r, .int .i64 c, .slice sa n ka], .agg #[.int .i64 1, .int .i64 m, .slice sb m kb]] W fun e w' => FillR (fun i j x => canonOf x = dotM (fun k => f (i * c + k)) (fun k => g (j * c + k)) c) r 1 (r * 1) W.heap.size e w' ∧ Below W.heap.size W w') := fun W hW => by
    subst hs
    exact byRows_any r 1 c n c sa sb ka kb f g W (ha.below hW).2.2.2.1 (hb.below hW) (by rw [ha.2.2.1]; exact Nat.le_refl _) (by omega) (by omega) (by omega) (by omega)
  have HM : Hid (r * 1 ≤ 9223372036854775807) := by show _ ≤ _; omega
  have HL1 := hid l1
  have hne : ((c : Int) != (m : Int)) = false := by rw [hs]; simp
  have hW := hW0.out
  unfold MBox at hW
  unfold MV at HC ⊢
  clear ha hb hf hs l1 l2 hl0
  go_enter Tryd.func34, Tryd.ntmps34
  go_wp2_with fail
  refine HC.out.mono ?_
  rintro e w1 ⟨rfl, hb1⟩
  have HB1 := hid (HB0.out.trans (hb1.mono HB0.out.size))
  have HN1 := hid (blkM HN0.out hb1)
  clear hb1
  go_wp2_with fail
  refine (HL.out _ HB1.out).mono ?_
  rintro e w2 ⟨rfl, hb2⟩
  have HB2 := hid (HB1.out.trans (hb2.mono HB1.out.size))
  have HN2 := hid (blkM HN1.out hb2)
  obtain ⟨y0, y1, y2⟩ := mcells_of HN2.out
  clear hb2
  go_wp2_with fail
  refine (HR.out _ HB2.out).mono ?_
  rintro e u1 ⟨hfi, hb3⟩
  obtain ⟨q, o, rfl, hq, hfn, hP⟩ := hfi.fn HM.out
  have HB3 := hid (HB2.out.trans (hb3.mono HB2.out.size))
  have HF := hid hfn
  have HP : Hid (∀ i, i < r → canonOf (o i) = dotM (fun k => f (i * c + k)) g c) := fun i hi => by
    have := hP i 0 hi (by omega)
    rw [show i * 1 + 0 = i by omega] at this
    rw [this]
    exact dotM_congr c (fun _ _ => rfl) (fun k _ => by rw [show 0 * c + k = k by omega])
  rw [Nat.mul_one] at HF
  unfold MV
  clear hfi hb3 hq hfn hP
  rw [Nat.mul_one]
  go_wp2_with fail
  refine (answered_any r 1 r _ r o u1 HF.out (by have := HL1.out; omega)).mono ?_
  rintro e u2 ⟨rfl, hk, hb4⟩
  have HB4 := hid (HB3.out.trans (hb4.mono HB3.out.size))
  have HF2 := hid (hk _ _ _ _ HF.out)
  obtain ⟨X0, X1, X2, X3, X4, hXX⟩ : ∃ a b s m k, Hid ((if finF r o = true then MV r 1 (some ⟨q, 0, none⟩) r r else MV 0 0 none 0 0) = MV a b s m k ∧ (if finF r o = true then .slice (some ⟨q, 0, none⟩) r r else .slice none 0 0 : Value) = .slice s m k) := by
    by_cases c : finF r o = true
    · exact ⟨r, 1, some ⟨q, 0, none⟩, r, r, by show _ ∧ _; rw [if_pos c, if_pos c]; exact ⟨rfl, rfl⟩⟩
    · exact ⟨0, 0, none, 0, 0, by show _ ∧ _; rw [if_neg c, if_neg c]; exact ⟨rfl, rfl⟩⟩
  obtain ⟨E, hE⟩ : ∃ E, Hid ((if finF r o = true then 0 else 5 : Int) = E) := ⟨_, rfl⟩
  have HA : Hid (AnsL r q o = .tuple #[.slice X2 X3 X4, .int .i64 E]) := by show _ = _; unfold AnsL; rw [hXX.out.2, hE.out]
  rw [hXX.out.1, hE.out]
  unfold MV
  clear hk hb4
  go_wp2_with fail
  exact bodyPost_ret (v := .tuple #[.slice X2 X3 X4, .int .i64 E]) (by simp [results, Tryd.results34, go_sem]) rfl ⟨⟨q, o, by rw [HA.out], HF2.out.below ((Below.refl _ _).alloc (Nat.le_refl _) _), HP.out⟩, HB4.out.trans (((Below.refl _ _).alloc (Nat.le_refl _) _).mono HB4.out.size)⟩
end Go.Proofs.YtfngjoaghbofgabDoor
