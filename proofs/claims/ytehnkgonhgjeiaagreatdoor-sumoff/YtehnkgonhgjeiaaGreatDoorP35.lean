
/- The document's exact numbers: Of. -/
import Derived.Test.YtehnkgonhgjeiaaGreatDoorP30
import Derived.Test.YtehnkgonhgjeiaaGreatDoorP29
import Derived.Test.YtehnkgonhgjeiaaGreatDoorP31
namespace Go.Proofs.YtehnkgonhgjeiaaGreatDoor
open Go.RowKit Go.IntWalk

/-- At a block lies the number v, and v * 2^e is z * 2^B. -/
def ExV (w : World) (p : Nat) (e B z : Int) (bd : Nat) : Prop := ∃ v : Int, ∃ k : Nat, NumAt w p v bd ∧ e = B + k ∧ z = v * 2 ^ k
theorem ExV.below {w w' : World} {p : Nat} {e B z : Int} {bd : Nat} (h : ExV w p e B z bd) (hb : Below w.heap.size w w') : ExV w' p e B z bd := by
  obtain ⟨v, k, h1, h2, h3⟩ := h
  exact ⟨v, k, h1.below hb, h2, h3⟩
theorem ExV.more {w : World} {p : Nat} {e B z : Int} {bd b2 : Nat} (h : ExV w p e B z bd) (hb : bd ≤ b2) : ExV w p e B z b2 := by
  obtain ⟨v, k, h1, h2, h3⟩ := h
  exact ⟨v, k, h1.more hb, h2, h3⟩
theorem xof_val (x : Nat) (fx : x % 9223372036854775808 < 9218868437227405312) : ∃ k : Nat, pExp x = -1074 + (k : Int) ∧ sv x = sgnN (pNeg x) (pMant x) * 2 ^ k ∧ pMant x < 18446744073709551616 := by
  obtain ⟨k, k1, k2, k3, k4, k5, k6, k7⟩ := sv_parts x fx
  exact ⟨k, by omega, k1.symm, k7⟩
theorem two_blk (w : World) (A B : Obj) : ((w.alloc A).alloc B).heap[w.heap.size]? = some A ∧ ((w.alloc A).alloc B).heap[w.heap.size + 1]? = some B := by
  have h1 : (w.alloc A).heap.size = w.heap.size + 1 := by simp
  constructor
  · rw [((Below.refl (w.alloc A).heap.size (w.alloc A)).alloc (Nat.le_refl _) B).block w.heap.size (by omega)]
    exact new_blk w A _ rfl
  · exact new_blk (w.alloc A) B _ h1.symm
/-- What a number's words can't lie in: a block that holds none. -/
def NoWord (w : World) (b : Nat) : Prop := ∀ o n, w.cell? ⟨b, o, none⟩ ≠ some (.int .u32 n)
theorem NumAt.away {w w' : World} {p b : Nat} {v : Int} {bd : Nat} (h : NumAt w p v bd) (hb : But b w w') (hp : p ≠ b) (hx : NoWord w b) : NumAt w' p v bd := by
  obtain ⟨neg, L, h1, h2, a, cap, ho, hcap, hm, hd, hc, hn⟩ := h
  refine ⟨neg, L, h1, h2, a, cap, (hb.block p (int_cells ho).2.2.2 hp).trans ho, hcap, fun i hi => ?_, hd, hc, hn⟩
  obtain ⟨b', off, e1, e2, e3⟩ := hm i hi
  refine ⟨b', off, e1, Nat.lt_of_lt_of_le e2 hb.size, hb.cell e3 ?_⟩
  intro c
  subst c
  exact hx _ _ e3
theorem noword_ex {w : World} {b : Nat} {q : Option Addr} {e : Int} {T : TypeId} (h : w.heap[b]? = some (.cells #[.pointer q, .int .i64 e] T)) : NoWord w b := by
  intro o n hc
  simp only [World.cell?, h] at hc
  match o, hc with
  | 0, hc => simp at hc
  | 1, hc => simp at hc
  | o + 2, hc => simp at hc
set_option maxRecDepth 4000 in
set_option maxHeartbeats 1000000 in
theorem xOf_core (x m : Nat) (neg : Bool) (E e4 : Int) (w : World) (hm : m < 18446744073709551616)
    (hP : ∀ W, Calls Tryz.prog 116 #[.float .f64 x] W fun r w' => r = .returned (.tuple #[.agg #[.bool neg, .int .u64 m, .int .i64 E], .int .i64 e4]) ∧ Below W.heap.size W w') :
    Calls Tryz.prog 66 #[.float .f64 x] w fun r w' => ∃ p, r = .returned (.agg #[.pointer (some ⟨p, 0, none⟩), .int .i64 E]) ∧ w.heap.size ≤ p ∧ NumAt w' p (sgnN neg m) 2 ∧ Below w.heap.size w w' := by
  have HP := hid hP
  clear hP
  go_enter Tryz.func66, Tryz.ntmps66
  go_wp2_with fail
  refine (HP.out _).mono ?_
  rintro r w1 ⟨rfl, hb1⟩
  have hsz1 : w.heap.size < w1.heap.size := by have := hb1.size; simp at this; omega
  have HB1 : Hid (Below w.heap.size w w1) := ((Below.refl _ _).alloc (Nat.le_refl _) _).trans (hb1.mono (by simp))
  have hbx1 : w1.heap[w.heap.size]? = some (.cells #[.pointer none, .int .i64 0] 46) := by rw [hb1.block _ (by simp)]; exact new_blk _ _ _ rfl
  clear hb1
  obtain ⟨V0, hV0⟩ : ∃ V, Hid ((w1.alloc (.cells #[.bool neg, .int .u64 m, .int .i64 E] 114)).alloc (.cells #[.bool false, .slice none 0 0] 90) = V) := ⟨_, rfl⟩
  have HZ : Hid (ZOk (w1.heap.size + 1) V0 V0) := by
    rw [← hV0.out]
    exact fresh_zok' _ _ (by simp)
  have HB0 : Hid (Below w.heap.size w V0) := by
    rw [← hV0.out]
    exact (HB1.out.alloc (Nat.le_of_lt hsz1) _).alloc (by simp; omega) _
  have HS0 : Hid (V0.heap.size = w1.heap.size + 2) := by
    show V0.heap.size = _
    rw [← hV0.out]
    simp
  have HK : Hid (∀ W, But (w1.heap.size + 1) V0 W → (W.cell? ⟨w1.heap.size, 0, none⟩ = some (.bool neg) ∧ W.cell? ⟨w1.heap.size, 1, none⟩ = some (.int .u64 m) ∧ W.cell? ⟨w1.heap.size, 2, none⟩ = some (.int .i64 E)) ∧ W.heap[w.heap.size]? = some (.cells #[.pointer none, .int .i64 0] 46)) := fun W hW => by
    obtain ⟨b1, b2⟩ := two_blk w1 (.cells #[.bool neg, .int .u64 m, .int .i64 E] 114) (.cells #[.bool false, .slice none 0 0] 90)
    rw [hV0.out] at b1 b2
    have e1 := (hW.block w1.heap.size (by rw [HS0.out]; omega) (by omega)).trans b1
    refine ⟨⟨by simp [World.cell?, e1], by simp [World.cell?, e1], by simp [World.cell?, e1]⟩, ?_⟩
    rw [hW.block w.heap.size (by rw [HS0.out]; omega) (by omega), ← hV0.out]
    show ((w1.alloc _).alloc _).heap[w.heap.size]? = _
    rw [((Below.refl w1.heap.size w1).alloc (Nat.le_refl _) _ |>.alloc (by simp) _).block _ hsz1]
    exact hbx1
  go_wp2_with fail
  rw [hV0.out]
  refine (NSetU _ m _ HZ.out hm).mono ?_
  rintro r w2 ⟨rfl, hn2, hbt2⟩
  have HN2 := hid hn2
  have HBT2 := hid hbt2
  obtain ⟨⟨p0, p1, p2⟩, hx2⟩ := HK.out _ hbt2
  have HX2 := hid hx2
  clear hn2 hbt2
  cases neg
  · have q0 : w2.cell? ⟨w.heap.size, 0, none⟩ = some (.pointer none) := by simp [World.cell?, hx2]
    have q1 : w2.cell? ⟨w.heap.size, 1, none⟩ = some (.int .i64 0) := by simp [World.cell?, hx2]
    have q2 : ∀ o, w2.frozen? ⟨w.heap.size, o, none⟩ = false := fun o => by simp [World.frozen?, hx2]
    clear hx2
    have HNW : Hid (NoWord w2 w.heap.size) := noword_ex HX2.out
    have HBE : Hid (Below w.heap.size w w2) := HB0.out.trans (HBT2.out.below HB0.out.size (by omega))
    go_wp2
    exact bodyPost_ret (v := .agg #[.pointer (some ⟨w1.heap.size + 1, 0, none⟩), .int .i64 E]) (by simp [results, Tryz.results66, go_sem, q0, q1]) rfl ⟨w1.heap.size + 1, rfl, by omega, HN2.out.away (But.setCell (But.setCell (But.refl _ _) 0 _) 1 _) (by omega) HNW.out, Below.setCell (Below.setCell HBE.out (Nat.le_refl _) _) (Nat.le_refl _) _⟩
  · have HZ2 : Hid (ZOk (w1.heap.size + 1) w2 w2) := HN2.out.zok
    go_wp2_with fail
    refine (NNeg _ _ _ _ _ HZ2.out HN2.out (by decide)).mono ?_
    rintro r w3 ⟨rfl, hn3, hbt3⟩
    have HN3 := hid hn3
    have HBT3 := hid (HBT2.out.trans hbt3)
    obtain ⟨⟨r0, r1, r2⟩, hx3⟩ := HK.out _ HBT3.out
    have HX3 := hid hx3
    have q0 : w3.cell? ⟨w.heap.size, 0, none⟩ = some (.pointer none) := by simp [World.cell?, hx3]
    have q1 : w3.cell? ⟨w.heap.size, 1, none⟩ = some (.int .i64 0) := by simp [World.cell?, hx3]
    have q2 : ∀ o, w3.frozen? ⟨w.heap.size, o, none⟩ = false := fun o => by simp [World.frozen?, hx3]
    have HNW : Hid (NoWord w3 w.heap.size) := noword_ex HX3.out
    have HBE : Hid (Below w.heap.size w w3) := HB0.out.trans (HBT3.out.below HB0.out.size (by omega))
    clear hn3 hbt3 hx3 p0 p1 p2
    go_wp2
    exact bodyPost_ret (v := .agg #[.pointer (some ⟨w1.heap.size + 1, 0, none⟩), .int .i64 E]) (by simp [results, Tryz.results66, go_sem, q0, q1]) rfl ⟨w1.heap.size + 1, rfl, by omega, HN3.out.away (But.setCell (But.setCell (But.refl _ _) 0 _) 1 _) (by omega) HNW.out, Below.setCell (Below.setCell HBE.out (Nat.le_refl _) _) (Nat.le_refl _) _⟩
/-- Of of a finite number, in steps of 2^-1074. -/
theorem xOf_fin (x : Nat) (w : World) (hx : x < 18446744073709551616) (fx : x % 9223372036854775808 < 9218868437227405312) :
    Calls Tryz.prog 66 #[.float .f64 x] w fun r w' => ∃ p e, r = .returned (.agg #[.pointer (some ⟨p, 0, none⟩), .int .i64 e]) ∧ (-1074 ≤ e ∧ e ≤ 2000) ∧ ExV w' p e (-1074) (sv x) 2 ∧ Below w.heap.size w w' := by
  obtain ⟨k, k1, k2, k3, k4, k5, k6, k7⟩ := sv_parts x fx
  refine (xOf_core x (pMant x) (pNeg x) (pExp x) (pErr x) w k7 (fun W => rParts_any x W hx)).mono ?_
  rintro r w' ⟨p, rfl, hp, hn, hb⟩
  exact ⟨p, pExp x, rfl, ⟨k5, k6⟩, ⟨_, k, hn, by omega, k1.symm⟩, hb⟩
end Go.Proofs.YtehnkgonhgjeiaaGreatDoor

namespace Go.Proofs.YtehnkgonhgjeiaaGreatDoor
open Go.RowKit Go.IntWalk

theorem zok_dr {z : Nat} {W : World} (h : ZOk z W W) : ZOk z W.drew W.drew := ⟨But.refl _ _, h.2⟩
def XBox (q : Option Addr) (e : Int) : Obj := .cells #[.pointer q, .int .i64 e] 46
/-- All but the result's block is as it was, and that holds two cells. -/
def XRes (z : Nat) (W1 W : World) : Prop := But z W1 W ∧ ∃ q e, W.heap[z]? = some (XBox q e)
theorem xr_al {z : Nat} {W1 W : World} (h : Hid (XRes z W1 W)) (o : Obj) : Hid (XRes z W1 (W.alloc o)) := by
  obtain ⟨h1, v0, v1, h2⟩ := h.out
  have hlt := (Array.getElem?_eq_some_iff.1 h2).1
  exact ⟨h1.trans (But.of_below ((Below.refl _ _).alloc (Nat.le_refl _) _)), v0, v1, by rw [((Below.refl W.heap.size W).alloc (Nat.le_refl _) o).block z hlt]; exact h2⟩
theorem xr_dr {z : Nat} {W1 W : World} (h : Hid (XRes z W1 W)) : Hid (XRes z W1 W.drew) := ⟨⟨h.out.1.os, h.out.1.tape, h.out.1.output, h.out.1.size, h.out.1.block⟩, h.out.2⟩
theorem xr_store {z : Nat} {W1 W : World} (h : Hid (XRes z W1 W)) (q : Option Addr) (e : Int) : Hid (XRes z W1 ((W.setCell ⟨z, 0, none⟩ (.pointer q)).setCell ⟨z, 1, none⟩ (.int .i64 e))) := by
  obtain ⟨h1, v0, v1, h2⟩ := h.out
  refine ⟨But.setCell (But.setCell h1 0 _) 1 _, q, e, ?_⟩
  unfold XBox at h2 ⊢
  simp [World.setCell, Array.getElem?_modify, h2]
theorem XRes.but {z z' : Nat} {W1 W W' : World} (h : XRes z W1 W) (hb : But z' W W') (h1 : W1.heap.size ≤ z') (hz : z < W1.heap.size) : XRes z W1 W' := by
  obtain ⟨h2, v0, v1, h3⟩ := h
  have hs := h2.size
  refine ⟨⟨hb.os.trans h2.os, hb.tape.trans h2.tape, hb.output.trans h2.output, Nat.le_trans hs hb.size, fun k hk hkz => (hb.block k (by omega) (by omega)).trans (h2.block k hk hkz)⟩, v0, v1, ?_⟩
  rw [hb.block z (by omega) (by omega)]
  exact h3
theorem XRes.below {z : Nat} {W1 W W' : World} (h : XRes z W1 W) (hb : Below W.heap.size W W') : XRes z W1 W' := by
  obtain ⟨h2, v0, v1, h3⟩ := h
  exact ⟨h2.trans (But.of_below hb), v0, v1, by rw [hb.block z (Array.getElem?_eq_some_iff.1 h3).1]; exact h3⟩
theorem xcells_of {W : World} {b : Nat} {v0 v1 : Value} {T : TypeId} (h : W.heap[b]? = some (.cells #[v0, v1] T)) : W.cell? ⟨b, 0, none⟩ = some v0 ∧ W.cell? ⟨b, 1, none⟩ = some v1 ∧ (∀ o, W.frozen? ⟨b, o, none⟩ = false) :=
  ⟨by simp [World.cell?, h], by simp [World.cell?, h], fun o => by simp [World.frozen?, h]⟩
/-- A store into a block of two cells hides no number's words but those that lay there: none do where it holds no words. -/
theorem NumAt.stored {W : World} {p b bd : Nat} {v e : Int} {q : Option Addr} (h : NumAt W p v bd) (hp : p ≠ b) (hb : W.heap[b]? = some (XBox q e)) (x y : Value) : NumAt ((W.setCell ⟨b, 0, none⟩ x).setCell ⟨b, 1, none⟩ y) p v bd :=
  h.away (But.setCell (But.setCell (But.refl _ _) 0 _) 1 _) hp (noword_ex hb)
set_option maxRecDepth 4000 in
set_option maxHeartbeats 1000000 in
theorem xNeg_core (p bd : Nat) (v e : Int) (w : World) (h : NumAt w p v bd) (hbd : bd ≤ 900000) :
    Calls Tryz.prog 42 #[.agg #[.pointer (some ⟨p, 0, none⟩), .int .i64 e]] w fun r w' => ∃ q, r = .returned (.agg #[.pointer (some ⟨q, 0, none⟩), .int .i64 e]) ∧ w.heap.size ≤ q ∧ NumAt w' q (-v) bd ∧ Below w.heap.size w w' := by
  obtain ⟨W0, hW0⟩ : ∃ V, Hid ((w.alloc (XBox (some ⟨p, 0, none⟩) e)).alloc (XBox none 0) = V) := ⟨_, rfl⟩
  obtain ⟨g1, g2⟩ := two_blk w (XBox (some ⟨p, 0, none⟩) e) (XBox none 0)
  have HS0 : Hid (W0.heap.size = w.heap.size + 2) := by
    show W0.heap.size = w.heap.size + 2
    rw [← hW0.out]; simp
  have HB0 : Hid (Below w.heap.size w W0) := by
    rw [← hW0.out]
    exact ((Below.refl _ _).alloc (Nat.le_refl _) _).alloc (by simp) _
  rw [hW0.out] at g1 g2
  have HK : Hid (∀ W, Hid (XRes (w.heap.size + 1) W0 W) → (W.cell? ⟨w.heap.size, 0, none⟩ = some (.pointer (some ⟨p, 0, none⟩)) ∧ W.cell? ⟨w.heap.size, 1, none⟩ = some (.int .i64 e)) ∧ Hid (XRes (w.heap.size + 1) W0 W)) := fun W hW => by
    have := xcells_of ((hW.out.1.block _ (by rw [HS0.out]; omega) (by omega)).trans g1)
    exact ⟨⟨this.1, this.2.1⟩, hW⟩
  have HQR : Hid (XRes (w.heap.size + 1) W0 W0) := ⟨But.refl _ _, _, _, g2⟩
  obtain ⟨V1, hV1⟩ : ∃ V, Hid ((W0.alloc (.cells #[.bool false, .slice none 0 0] 90)).drew = V) := ⟨_, rfl⟩
  have HN : Hid (Calls Tryz.prog 84 #[.pointer (some ⟨W0.heap.size, 0, none⟩), .pointer (some ⟨p, 0, none⟩)] (W0.alloc (.cells #[.bool false, .slice none 0 0] 90)).drew fun r w' => r = .returned (.pointer (some ⟨W0.heap.size, 0, none⟩)) ∧ Hid (NumAt w' W0.heap.size (-v) bd ∧ w'.heap[w.heap.size + 1]? = some (XBox none 0)) ∧ (∀ o, w'.frozen? ⟨w.heap.size + 1, o, none⟩ = false) ∧ w'.cell? ⟨w.heap.size + 1, 0, none⟩ = some (.pointer none) ∧ w'.cell? ⟨w.heap.size + 1, 1, none⟩ = some (.int .i64 0) ∧ Hid (XRes (w.heap.size + 1) W0 w')) := by
    have hx := xr_dr (xr_al HQR (.cells #[.bool false, .slice none 0 0] 90))
    have hbw : Below w.heap.size w (W0.alloc (.cells #[.bool false, .slice none 0 0] 90)).drew := (HB0.out.alloc HB0.out.size _).drew
    refine (NNeg W0.heap.size p v bd _ (zok_dr (fresh_zok W0)) (h.below hbw) hbd).mono ?_
    rintro r w' ⟨rfl, hn, hbt⟩
    have hB' := hx.out.but hbt (Nat.le_refl _) (by rw [HS0.out]; omega)
    have hr : w'.heap[w.heap.size + 1]? = some (XBox none 0) := by
      rw [hbt.block (w.heap.size + 1) (by show _ < (W0.alloc _).heap.size; simp; have := HS0.out; omega) (by have := HS0.out; omega)]
      show (W0.alloc _).heap[w.heap.size + 1]? = _
      rw [((Below.refl W0.heap.size W0).alloc (Nat.le_refl _) _).block _ (by have := HS0.out; omega)]
      exact g2
    obtain ⟨f1, f2, f3⟩ := xcells_of hr
    exact ⟨rfl, ⟨hn, hr⟩, f3, f1, f2, hB'⟩
  unfold XBox at hW0
  clear h hbd g1 g2
  go_enter Tryz.func42, Tryz.ntmps42
  go_wp2_with fail
  rw [hW0.out]
  go_region_held3 (fun W => (W.cell? ⟨w.heap.size, 0, none⟩ = some (.pointer (some ⟨p, 0, none⟩)) ∧ W.cell? ⟨w.heap.size, 1, none⟩ = some (.int .i64 e)) ∧ Hid (XRes (w.heap.size + 1) W0 W))
    ((refine HK.out _ ?_; repeat' (first | with_reducible assumption | with_reducible exact HQR | with_reducible refine xr_al ?_ _ | with_reducible refine xr_dr ?_ | with_reducible refine xr_store ?_ _ _)))
    (first
      | (go_at_call 84; refine HN.out.mono ?_; rintro r w3 ⟨rfl, HF, fz, c0, c1, HB3⟩))
  go_wp2
  exact bodyPost_ret (v := .agg #[.pointer (some ⟨W0.heap.size, 0, none⟩), .int .i64 e]) (by simp [results, Tryz.results42, go_sem, c0, c1]) rfl ⟨W0.heap.size, rfl, by have := HS0.out; omega, HF.out.1.stored (by have := HS0.out; omega) HF.out.2 _ _, HB0.out.trans ((xr_store HB3 _ _).out.1.below HB0.out.size (by omega))⟩
end Go.Proofs.YtehnkgonhgjeiaaGreatDoor

namespace Go.Proofs.YtehnkgonhgjeiaaGreatDoor
open Go.RowKit Go.IntWalk

theorem three_blk (w : World) (A B C : Obj) : (((w.alloc A).alloc B).alloc C).heap[w.heap.size]? = some A ∧ (((w.alloc A).alloc B).alloc C).heap[w.heap.size + 1]? = some B ∧ (((w.alloc A).alloc B).alloc C).heap[w.heap.size + 2]? = some C := by
  obtain ⟨h1, h2⟩ := two_blk w A B
  have hs : ((w.alloc A).alloc B).heap.size = w.heap.size + 2 := by simp
  have hb := ((Below.refl ((w.alloc A).alloc B).heap.size ((w.alloc A).alloc B)).alloc (Nat.le_refl _) C)
  refine ⟨(hb.block _ (by omega)).trans h1, (hb.block _ (by omega)).trans h2, new_blk _ _ _ hs.symm⟩
set_option maxRecDepth 4000 in
set_option maxHeartbeats 1000000 in
theorem xMul_core (p1 p2 b1 b2 : Nat) (v1 v2 e1 e2 E : Int) (w : World) (h1 : NumAt w p1 v1 b1) (h2 : NumAt w p2 v2 b2) (hb1 : b1 ≤ 400000) (hb2 : b2 ≤ 400000) (hE : e1 + e2 = E) (hE1 : -1000000 ≤ E) (hE2 : E ≤ 1000000) :
    Calls Tryz.prog 39 #[.agg #[.pointer (some ⟨p1, 0, none⟩), .int .i64 e1], .agg #[.pointer (some ⟨p2, 0, none⟩), .int .i64 e2]] w fun r w' => ∃ q, r = .returned (.agg #[.pointer (some ⟨q, 0, none⟩), .int .i64 E]) ∧ w.heap.size ≤ q ∧ NumAt w' q (v1 * v2) (b1 + b2) ∧ Below w.heap.size w w' := by
  obtain ⟨W0, hW0⟩ : ∃ V, Hid (((w.alloc (XBox (some ⟨p1, 0, none⟩) e1)).alloc (XBox (some ⟨p2, 0, none⟩) e2)).alloc (XBox none 0) = V) := ⟨_, rfl⟩
  obtain ⟨g1, g2, g3⟩ := three_blk w (XBox (some ⟨p1, 0, none⟩) e1) (XBox (some ⟨p2, 0, none⟩) e2) (XBox none 0)
  have HS0 : Hid (W0.heap.size = w.heap.size + 3) := by
    show W0.heap.size = w.heap.size + 3
    rw [← hW0.out]; simp
  have HB0 : Hid (Below w.heap.size w W0) := by
    rw [← hW0.out]
    exact (((Below.refl _ _).alloc (Nat.le_refl _) _).alloc (by simp) _).alloc (by simp; omega) _
  rw [hW0.out] at g1 g2 g3
  have HK : Hid (∀ W, Hid (XRes (w.heap.size + 2) W0 W) → ((W.cell? ⟨w.heap.size, 0, none⟩ = some (.pointer (some ⟨p1, 0, none⟩)) ∧ W.cell? ⟨w.heap.size, 1, none⟩ = some (.int .i64 e1)) ∧ (W.cell? ⟨w.heap.size + 1, 0, none⟩ = some (.pointer (some ⟨p2, 0, none⟩)) ∧ W.cell? ⟨w.heap.size + 1, 1, none⟩ = some (.int .i64 e2))) ∧ Hid (XRes (w.heap.size + 2) W0 W)) := fun W hW => by
    have t1 := xcells_of ((hW.out.1.block _ (by rw [HS0.out]; omega) (by omega)).trans g1)
    have t2 := xcells_of ((hW.out.1.block _ (by rw [HS0.out]; omega) (by omega)).trans g2)
    exact ⟨⟨⟨t1.1, t1.2.1⟩, ⟨t2.1, t2.2.1⟩⟩, hW⟩
  have HQR : Hid (XRes (w.heap.size + 2) W0 W0) := ⟨But.refl _ _, _, _, g3⟩
  have HN : Hid (Calls Tryz.prog 85 #[.pointer (some ⟨W0.heap.size, 0, none⟩), .pointer (some ⟨p1, 0, none⟩), .pointer (some ⟨p2, 0, none⟩)] (W0.alloc (.cells #[.bool false, .slice none 0 0] 90)).drew fun r w' => r = .returned (.pointer (some ⟨W0.heap.size, 0, none⟩)) ∧ Hid (NumAt w' W0.heap.size (v1 * v2) (b1 + b2) ∧ w'.heap[w.heap.size + 2]? = some (XBox none 0)) ∧ (∀ o, w'.frozen? ⟨w.heap.size + 2, o, none⟩ = false) ∧ w'.cell? ⟨w.heap.size + 2, 0, none⟩ = some (.pointer none) ∧ w'.cell? ⟨w.heap.size + 2, 1, none⟩ = some (.int .i64 0) ∧ Hid (XRes (w.heap.size + 2) W0 w')) := by
    have hx := xr_dr (xr_al HQR (.cells #[.bool false, .slice none 0 0] 90))
    have hbw : Below w.heap.size w (W0.alloc (.cells #[.bool false, .slice none 0 0] 90)).drew := (HB0.out.alloc HB0.out.size _).drew
    have hs0 := HS0.out
    refine (NMul W0.heap.size p1 p2 v1 v2 b1 b2 _ (zok_dr (fresh_zok W0)) (by have := h1.lt; omega) (by have := h2.lt; omega) (h1.below hbw) (h2.below hbw) hb1 hb2).mono ?_
    rintro r w' ⟨rfl, hn, hbt⟩
    have hB' := hx.out.but hbt (Nat.le_refl _) (by rw [HS0.out]; omega)
    have hr : w'.heap[w.heap.size + 2]? = some (XBox none 0) := by
      rw [hbt.block (w.heap.size + 2) (by show _ < (W0.alloc _).heap.size; simp; omega) (by omega)]
      show (W0.alloc _).heap[w.heap.size + 2]? = _
      rw [((Below.refl W0.heap.size W0).alloc (Nat.le_refl _) _).block _ (by omega)]
      exact g3
    obtain ⟨f1, f2, f3⟩ := xcells_of hr
    exact ⟨rfl, ⟨hn, hr⟩, f3, f1, f2, hB'⟩
  have hw1 : IntKind.i64.wrap (e1 + e2) = E := by rw [hE, IntWalk.i64_in _ (by omega)]
  have hw2 : wrap64 E = E := by unfold wrap64; omega
  have hw3 : IntKind.i64.wrap E = E := by rw [IntWalk.i64_in _ (by omega)]
  unfold XBox at hW0
  clear h1 h2 hb1 hb2 g1 g2 g3 hE1 hE2
  go_enter Tryz.func39, Tryz.ntmps39
  go_wp2_with fail
  rw [hW0.out]
  go_region_held3 (fun W => ((W.cell? ⟨w.heap.size, 0, none⟩ = some (.pointer (some ⟨p1, 0, none⟩)) ∧ W.cell? ⟨w.heap.size, 1, none⟩ = some (.int .i64 e1)) ∧ (W.cell? ⟨w.heap.size + 1, 0, none⟩ = some (.pointer (some ⟨p2, 0, none⟩)) ∧ W.cell? ⟨w.heap.size + 1, 1, none⟩ = some (.int .i64 e2))) ∧ Hid (XRes (w.heap.size + 2) W0 W))
    ((refine HK.out _ ?_; repeat' (first | with_reducible assumption | with_reducible exact HQR | with_reducible refine xr_al ?_ _ | with_reducible refine xr_dr ?_ | with_reducible refine xr_store ?_ _ _)))
    (first
      | (go_at_call 85; refine HN.out.mono ?_; rintro r w3 ⟨rfl, HF, fz, c0, c1, HB3⟩))
  go_wp2
  exact bodyPost_ret (v := .agg #[.pointer (some ⟨W0.heap.size, 0, none⟩), .int .i64 E]) (by simp [results, Tryz.results39, go_sem, c0, c1]) rfl ⟨W0.heap.size, rfl, by have := HS0.out; omega, HF.out.1.stored (by have := HS0.out; omega) HF.out.2 _ _, HB0.out.trans ((xr_store HB3 _ _).out.1.below HB0.out.size (by omega))⟩
end Go.Proofs.YtehnkgonhgjeiaaGreatDoor

namespace Go.Proofs.YtehnkgonhgjeiaaGreatDoor
open Go.RowKit Go.IntWalk

set_option maxRecDepth 4000 in
set_option maxHeartbeats 1000000 in
/-- Low with an exponent that isn't higher. -/
theorem xLow_core (p bd n : Nat) (v E e : Int) (w : World) (h : NumAt w p v bd) (hbd : bd ≤ 800000) (hn : E - e = (n : Int)) (hn2 : n ≤ 1000000) :
    Calls Tryz.prog 87 #[.agg #[.pointer (some ⟨p, 0, none⟩), .int .i64 E], .int .i64 e] w fun r w' => ∃ q, r = .returned (.agg #[.pointer (some ⟨q, 0, none⟩), .int .i64 e]) ∧ (q = p ∨ w.heap.size ≤ q) ∧ NumAt w' q (v * 2 ^ n) (n / 32 + bd + 1) ∧ Below w.heap.size w w' := by
  obtain ⟨W0, hW0⟩ : ∃ V, Hid ((w.alloc (XBox (some ⟨p, 0, none⟩) E)).alloc (XBox none 0) = V) := ⟨_, rfl⟩
  obtain ⟨g1, g2⟩ := two_blk w (XBox (some ⟨p, 0, none⟩) E) (XBox none 0)
  have HS0 : Hid (W0.heap.size = w.heap.size + 2) := by
    show W0.heap.size = w.heap.size + 2
    rw [← hW0.out]; simp
  have HB0 : Hid (Below w.heap.size w W0) := by
    rw [← hW0.out]
    exact ((Below.refl _ _).alloc (Nat.le_refl _) _).alloc (by simp) _
  rw [hW0.out] at g1 g2
  have HR0 := hid g2
  have H := hid h
  obtain ⟨d1, d2, _⟩ := xcells_of (show W0.heap[w.heap.size]? = some (.cells #[.pointer (some ⟨p, 0, none⟩), .int .i64 E] 46) from g1)
  obtain ⟨z1, z2, z3⟩ := xcells_of (show W0.heap[w.heap.size + 1]? = some (.cells #[.pointer none, .int .i64 0] 46) from g2)
  by_cases h0 : n = 0
  · have hEe : E = e := by omega
    subst hEe
    subst h0
    unfold XBox at hW0
    have hW0' := hW0.out
    have HPL := hid h.lt
    clear h hbd hn hn2 g1 g2
    go_enter Tryz.func87, Tryz.ntmps87
    go_wp2
    exact bodyPost_ret (v := .agg #[.pointer (some ⟨p, 0, none⟩), .int .i64 E]) (by simp [results, Tryz.results87, go_sem, z1, z2]) rfl ⟨p, rfl, Or.inl rfl, by
      have := (H.out.below HB0.out).stored (b := w.heap.size + 1) (by have := HPL.out; omega) HR0.out (.pointer (some ⟨p, 0, none⟩)) (.int .i64 E)
      rw [Int.pow_zero, Int.mul_one]
      exact this.more (by omega), Below.setCell (Below.setCell HB0.out (by simp) _) (by simp) _⟩
  · have HK : Hid (∀ W, Hid (XRes (w.heap.size + 1) W0 W) → (W.cell? ⟨w.heap.size, 0, none⟩ = some (.pointer (some ⟨p, 0, none⟩)) ∧ W.cell? ⟨w.heap.size, 1, none⟩ = some (.int .i64 E)) ∧ Hid (XRes (w.heap.size + 1) W0 W)) := fun W hW => by
      have := xcells_of ((hW.out.1.block _ (by rw [HS0.out]; omega) (by omega)).trans g1)
      exact ⟨⟨this.1, this.2.1⟩, hW⟩
    have HQR : Hid (XRes (w.heap.size + 1) W0 W0) := ⟨But.refl _ _, _, _, g2⟩
    have HN : Hid (Calls Tryz.prog 126 #[.pointer (some ⟨W0.heap.size, 0, none⟩), .pointer (some ⟨p, 0, none⟩), .int .u64 n] (W0.alloc (.cells #[.bool false, .slice none 0 0] 90)) fun r w' => r = .returned (.pointer (some ⟨W0.heap.size, 0, none⟩)) ∧ Hid (NumAt w' W0.heap.size (v * 2 ^ n) (n / 32 + bd + 1) ∧ w'.heap[w.heap.size + 1]? = some (XBox none 0)) ∧ (∀ o, w'.frozen? ⟨w.heap.size + 1, o, none⟩ = false) ∧ w'.cell? ⟨w.heap.size + 1, 0, none⟩ = some (.pointer none) ∧ w'.cell? ⟨w.heap.size + 1, 1, none⟩ = some (.int .i64 0) ∧ Hid (XRes (w.heap.size + 1) W0 w')) := by
      have hx := xr_al HQR (.cells #[.bool false, .slice none 0 0] 90)
      have hbw : Below w.heap.size w (W0.alloc (.cells #[.bool false, .slice none 0 0] 90)) := HB0.out.alloc HB0.out.size _
      refine (NLsh W0.heap.size p v n bd _ (fresh_zok W0) (h.below hbw) (by omega) (by omega)).mono ?_
      rintro r w' ⟨rfl, hn, hbt⟩
      have hB' := hx.out.but hbt (Nat.le_refl _) (by rw [HS0.out]; omega)
      have hr : w'.heap[w.heap.size + 1]? = some (XBox none 0) := by
        rw [hbt.block (w.heap.size + 1) (by show _ < (W0.alloc _).heap.size; simp; have := HS0.out; omega) (by have := HS0.out; omega)]
        show (W0.alloc _).heap[w.heap.size + 1]? = _
        rw [((Below.refl W0.heap.size W0).alloc (Nat.le_refl _) _).block _ (by have := HS0.out; omega)]
        exact g2
      obtain ⟨f1, f2, f3⟩ := xcells_of hr
      exact ⟨rfl, ⟨hn, hr⟩, f3, f1, f2, hB'⟩
    obtain ⟨N, hN⟩ : ∃ N : Int, Hid ((n : Int) = N) := ⟨_, rfl⟩
    rw [hN.out] at HN hn
    have hN1 : 1 ≤ N := by have := hN.out; omega
    have hN2 : N ≤ 1000000 := by have := hN.out; omega
    have hw1 : IntKind.i64.wrap (E - e) = N := by rw [hn, IntWalk.i64_in _ (by omega)]
    have hw2 : wrap64 N = N := by unfold wrap64; omega
    have hw3 : IntKind.i64.wrap N = N := by rw [IntWalk.i64_in _ (by omega)]
    have hw4 : IntKind.u64.wrap N = N := by rw [IntKind.wrap_u64]; omega
    have hge : ¬ E ≤ e := by omega
    have hge2 : decide (E ≤ e) = false := decide_eq_false hge
    obtain ⟨y0, y1⟩ := (HK.out _ (xr_al HQR (.cells #[.bool false, .slice none 0 0] 90))).1
    unfold XBox at hW0
    have hW0' := hW0.out
    clear h hbd hn2 g1 g2 h0
    go_enter Tryz.func87, Tryz.ntmps87
    go_wp2_with fail
    refine HN.out.mono ?_
    rintro r w3 ⟨rfl, HF, fz, c0, c1, HB3⟩
    go_wp2
    exact bodyPost_ret (v := .agg #[.pointer (some ⟨W0.heap.size, 0, none⟩), .int .i64 e]) (by simp [results, Tryz.results87, go_sem, c0, c1]) rfl ⟨W0.heap.size, rfl, Or.inr (by have := HS0.out; omega), HF.out.1.stored (by have := HS0.out; omega) HF.out.2 _ _, HB0.out.trans ((xr_store HB3 _ _).out.1.below HB0.out.size (by omega))⟩
end Go.Proofs.YtehnkgonhgjeiaaGreatDoor

namespace Go.Proofs.YtehnkgonhgjeiaaGreatDoor
open Go.RowKit Go.IntWalk

theorem zok_bl {z : Nat} {W W' : World} (h : ZOk z W W) (hb : Below W.heap.size W W') : ZOk z W' W' := by
  obtain ⟨_, n0, a0, k0, c0, ho⟩ := h
  exact ⟨But.refl _ _, n0, a0, k0, c0, by rw [hb.block z (Array.getElem?_eq_some_iff.1 ho).1]; exact ho⟩
theorem dr_size (W : World) : W.drew.heap.size = W.heap.size := rfl
theorem al_size (W : World) (o : Obj) : (W.alloc o).heap.size = W.heap.size + 1 := by simp
/-- What Low leaves; what Add wants. -/
def LowF (w W w' : World) (p q : Nat) (v : Int) (bd : Nat) : Prop := (q = p ∨ W.heap.size ≤ q) ∧ NumAt w' q v bd ∧ Below W.heap.size W w' ∧ Below w.heap.size w w'
def AddOk (W0 W : World) (z q1 q2 : Nat) (a1 a2 : Int) (d1 d2 : Nat) : Prop := ZOk z W W ∧ W0.heap.size ≤ z ∧ q1 ≠ z ∧ q2 ≠ z ∧ NumAt W q1 a1 d1 ∧ NumAt W q2 a2 d2
theorem side1 {w W0 w3 w4 : World} {p1 p2 q1 q2 d1 d2 : Nat} {a1 a2 : Int} (h1 : Hid (LowF w (W0.alloc (.cells #[.bool false, .slice none 0 0] 90)).drew w3 p1 q1 a1 d1)) (h2 : Hid (LowF w w3 w4 p2 q2 a2 d2)) (hp : Hid (p1 < w.heap.size ∧ p2 < w.heap.size)) (hs : Hid (W0.heap.size = w.heap.size + 3)) : AddOk W0 w4 W0.heap.size q1 q2 a1 a2 d1 d2 := by
  obtain ⟨f1, f2, f3, f4⟩ := h1.out
  obtain ⟨k1, k2, k3, k4⟩ := h2.out
  have hp := hp.out
  have hs := hs.out
  have s3 := f3.size
  rw [dr_size, al_size] at f1 s3
  exact ⟨zok_bl (zok_bl (zok_dr (fresh_zok W0)) f3) k3, Nat.le_refl _, by omega, by omega, f2.below k3, k2⟩
theorem side2 {w W0 w3 w4 : World} {p1 p2 q1 q2 d1 d2 : Nat} {a1 a2 : Int} (h1 : Hid (LowF w W0.drew w3 p1 q1 a1 d1)) (h2 : Hid (LowF w (w3.alloc (.cells #[.bool false, .slice none 0 0] 90)) w4 p2 q2 a2 d2)) (hp : Hid (p1 < w.heap.size ∧ p2 < w.heap.size)) (hs : Hid (W0.heap.size = w.heap.size + 3)) : AddOk W0 w4 w3.heap.size q1 q2 a1 a2 d1 d2 := by
  obtain ⟨f1, f2, f3, f4⟩ := h1.out
  obtain ⟨k1, k2, k3, k4⟩ := h2.out
  have hp := hp.out
  have hs := hs.out
  have s3 := f3.size
  have l2 := f2.lt
  rw [dr_size] at s3
  rw [al_size] at k1
  exact ⟨zok_bl (fresh_zok w3) k3, s3, by omega, by omega, (f2.al _).below k3, k2⟩
theorem side3 {w W0 w3 w4 : World} {p1 p2 q1 q2 d1 d2 : Nat} {a1 a2 : Int} (h1 : Hid (LowF w W0.drew w3 p1 q1 a1 d1)) (h2 : Hid (LowF w w3 w4 p2 q2 a2 d2)) : AddOk W0 (w4.alloc (.cells #[.bool false, .slice none 0 0] 90)) w4.heap.size q1 q2 a1 a2 d1 d2 := by
  obtain ⟨f1, f2, f3, f4⟩ := h1.out
  obtain ⟨k1, k2, k3, k4⟩ := h2.out
  have s3 := f3.size
  have s4 := k3.size
  have l2 := f2.lt
  have l4 := k2.lt
  rw [dr_size] at s3
  exact ⟨fresh_zok w4, by omega, by omega, by omega, (f2.below k3).al _, k2.al _⟩
theorem xfield (q : Option Addr) (e : Int) (w : World) : (Instr.field 46 (.agg #[.pointer q, .int .i64 e]) 0).run Tryz.prog w = .ok (.pointer q) w := by kernel_rfl
set_option maxRecDepth 4000 in
set_option maxHeartbeats 8000000 in
/-- Add of two that are not 0. -/
theorem xAdd_two (p1 p2 b1 b2 n1 n2 : Nat) (v1 v2 e1 e2 e : Int) (w : World) (h1 : NumAt w p1 v1 b1) (h2 : NumAt w p2 v2 b2) (hb1 : b1 ≤ 400000) (hb2 : b2 ≤ 400000) (hv1 : v1 ≠ 0) (hv2 : v2 ≠ 0) (he : min e1 e2 = e) (hn1 : e1 - e = (n1 : Int)) (hn2 : e2 - e = (n2 : Int)) (hm1 : n1 ≤ 1000000) (hm2 : n2 ≤ 1000000) :
    Calls Tryz.prog 41 #[.agg #[.pointer (some ⟨p1, 0, none⟩), .int .i64 e1], .agg #[.pointer (some ⟨p2, 0, none⟩), .int .i64 e2]] w fun r w' => ∃ q, r = .returned (.agg #[.pointer (some ⟨q, 0, none⟩), .int .i64 e]) ∧ w.heap.size ≤ q ∧ NumAt w' q (v1 * 2 ^ n1 + v2 * 2 ^ n2) (max (n1 / 32 + b1 + 1) (n2 / 32 + b2 + 1) + 1) ∧ Below w.heap.size w w' := by
  obtain ⟨W0, hW0⟩ : ∃ V, Hid (((w.alloc (XBox (some ⟨p1, 0, none⟩) e1)).alloc (XBox (some ⟨p2, 0, none⟩) e2)).alloc (XBox none 0) = V) := ⟨_, rfl⟩
  obtain ⟨g1, g2, g3⟩ := three_blk w (XBox (some ⟨p1, 0, none⟩) e1) (XBox (some ⟨p2, 0, none⟩) e2) (XBox none 0)
  have HS0 : Hid (W0.heap.size = w.heap.size + 3) := by
    show W0.heap.size = w.heap.size + 3
    rw [← hW0.out]; simp
  have HB0 : Hid (Below w.heap.size w W0) := by
    rw [← hW0.out]
    exact (((Below.refl _ _).alloc (Nat.le_refl _) _).alloc (by simp) _).alloc (by simp; omega) _
  rw [hW0.out] at g1 g2 g3
  have HK : Hid (∀ W, Hid (XRes (w.heap.size + 2) W0 W) → ((W.cell? ⟨w.heap.size, 0, none⟩ = some (.pointer (some ⟨p1, 0, none⟩)) ∧ W.cell? ⟨w.heap.size, 1, none⟩ = some (.int .i64 e1)) ∧ (W.cell? ⟨w.heap.size + 1, 0, none⟩ = some (.pointer (some ⟨p2, 0, none⟩)) ∧ W.cell? ⟨w.heap.size + 1, 1, none⟩ = some (.int .i64 e2))) ∧ Hid (XRes (w.heap.size + 2) W0 W)) := fun W hW => by
    have t1 := xcells_of ((hW.out.1.block _ (by rw [HS0.out]; omega) (by omega)).trans g1)
    have t2 := xcells_of ((hW.out.1.block _ (by rw [HS0.out]; omega) (by omega)).trans g2)
    exact ⟨⟨⟨t1.1, t1.2.1⟩, ⟨t2.1, t2.2.1⟩⟩, hW⟩
  have HQR : Hid (XRes (w.heap.size + 2) W0 W0) := ⟨But.refl _ _, _, _, g3⟩
  have HG1 : Hid (∀ W, Below W0.heap.size W0 W → Calls Tryz.prog 69 #[.pointer (some ⟨p1, 0, none⟩)] W fun r w' => r = .returned (.int .i64 (sgnZ v1)) ∧ w' = W) := fun W hW => NSign p1 v1 b1 W ((h1.below HB0.out).below hW)
  have HG2 : Hid (∀ W, Below W0.heap.size W0 W → Calls Tryz.prog 69 #[.pointer (some ⟨p2, 0, none⟩)] W fun r w' => r = .returned (.int .i64 (sgnZ v2)) ∧ w' = W) := fun W hW => NSign p2 v2 b2 W ((h2.below HB0.out).below hW)
  have hs1 : ¬ sgnZ v1 = 0 := by unfold sgnZ; split <;> (try split) <;> omega
  have hs2 : ¬ sgnZ v2 = 0 := by unfold sgnZ; split <;> (try split) <;> omega
  obtain ⟨S1, hS1⟩ : ∃ S, Hid (sgnZ v1 = S) := ⟨_, rfl⟩
  obtain ⟨S2, hS2⟩ : ∃ S, Hid (sgnZ v2 = S) := ⟨_, rfl⟩
  rw [hS1.out] at HG1 hs1
  rw [hS2.out] at HG2 hs2
  have HL1 : Hid (∀ W, Hid (XRes (w.heap.size + 2) W0 W) → Below w.heap.size w W → Calls Tryz.prog 87 #[.agg #[.pointer (some ⟨p1, 0, none⟩), .int .i64 e1], .int .i64 e] W fun r w' => ∃ q, r = .returned (.agg #[.pointer (some ⟨q, 0, none⟩), .int .i64 e]) ∧ Hid (LowF w W w' p1 q (v1 * 2 ^ n1) (n1 / 32 + b1 + 1)) ∧ Hid (XRes (w.heap.size + 2) W0 w')) := fun W hX hW => by
    refine (xLow_core p1 b1 n1 v1 e1 e W (h1.below hW) (by omega) hn1 hm1).mono ?_
    rintro r w' ⟨q, rfl, f1, f2, f3⟩
    exact ⟨q, rfl, ⟨f1, f2, f3, hW.trans (f3.mono hW.size)⟩, hX.out.below f3⟩
  have HL2 : Hid (∀ W, Hid (XRes (w.heap.size + 2) W0 W) → Below w.heap.size w W → Calls Tryz.prog 87 #[.agg #[.pointer (some ⟨p2, 0, none⟩), .int .i64 e2], .int .i64 e] W fun r w' => ∃ q, r = .returned (.agg #[.pointer (some ⟨q, 0, none⟩), .int .i64 e]) ∧ Hid (LowF w W w' p2 q (v2 * 2 ^ n2) (n2 / 32 + b2 + 1)) ∧ Hid (XRes (w.heap.size + 2) W0 w')) := fun W hX hW => by
    refine (xLow_core p2 b2 n2 v2 e2 e W (h2.below hW) (by omega) hn2 hm2).mono ?_
    rintro r w' ⟨q, rfl, f1, f2, f3⟩
    exact ⟨q, rfl, ⟨f1, f2, f3, hW.trans (f3.mono hW.size)⟩, hX.out.below f3⟩
  have HADD : Hid (∀ W z q1 q2, Hid (XRes (w.heap.size + 2) W0 W) → AddOk W0 W z q1 q2 (v1 * 2 ^ n1) (v2 * 2 ^ n2) (n1 / 32 + b1 + 1) (n2 / 32 + b2 + 1) → Calls Tryz.prog 86 #[.pointer (some ⟨z, 0, none⟩), .pointer (some ⟨q1, 0, none⟩), .pointer (some ⟨q2, 0, none⟩)] W fun r w' => ∃ x0 y0, r = .returned (.pointer (some ⟨z, 0, none⟩)) ∧ Hid (NumAt w' z (v1 * 2 ^ n1 + v2 * 2 ^ n2) (max (n1 / 32 + b1 + 1) (n2 / 32 + b2 + 1) + 1) ∧ W0.heap.size ≤ z ∧ w'.heap[w.heap.size + 2]? = some (XBox x0 y0)) ∧ (∀ o, w'.frozen? ⟨w.heap.size + 1 + 1, o, none⟩ = false) ∧ w'.cell? ⟨w.heap.size + 1 + 1, 0, none⟩ = some (.pointer x0) ∧ w'.cell? ⟨w.heap.size + 1 + 1, 1, none⟩ = some (.int .i64 y0) ∧ Hid (XRes (w.heap.size + 2) W0 w')) := fun W z q1 q2 hX ⟨hz, hzl, hq1, hq2, k1, k2⟩ => by
    refine (NAdd z q1 q2 _ _ _ _ W hz (Or.inr ⟨hq1, hq2⟩) k1 k2 (by omega) (by omega)).mono ?_
    rintro r w' ⟨rfl, hn, hbt⟩
    have hB' := hX.out.but hbt hzl (by rw [HS0.out]; omega)
    obtain ⟨_, x0, y0, hr⟩ := hB'
    obtain ⟨f1, f2, f3⟩ := xcells_of (show w'.heap[w.heap.size + 2]? = some (.cells #[.pointer x0, .int .i64 y0] 46) from hr)
    exact ⟨x0, y0, rfl, ⟨hn, hzl, hr⟩, f3, f1, f2, hX.out.but hbt hzl (by rw [HS0.out]; omega)⟩
  have HP := hid (And.intro h1.lt h2.lt)
  have HBQ : Hid (∀ W, Hid (XRes (w.heap.size + 2) W0 W) → Below w.heap.size w W) := fun W h => HB0.out.trans (h.out.1.below HB0.out.size (by omega))
  have hfl := xfield
  obtain ⟨y0, y1⟩ := (HK.out _ HQR).1
  obtain ⟨y00, y01⟩ := y0
  obtain ⟨y10, y11⟩ := y1
  unfold XBox at hW0
  have hW0' := hW0.out
  clear hv1 hv2 h1 h2 hb1 hb2 hn1 hn2 hm1 hm2 g1 g2 g3
  go_enter Tryz.func41, Tryz.ntmps41
  go_wp2_with fail
  refine (HG1.out _ (Below.refl _ _)).mono ?_
  rintro r w1 ⟨rfl, rfl⟩
  go_wp2_with fail
  refine (HG2.out _ (Below.refl _ _)).mono ?_
  rintro r w1 ⟨rfl, rfl⟩
  go_wp2_with fail
  go_region_held3 (fun W => ((W.cell? ⟨w.heap.size, 0, none⟩ = some (.pointer (some ⟨p1, 0, none⟩)) ∧ W.cell? ⟨w.heap.size, 1, none⟩ = some (.int .i64 e1)) ∧ (W.cell? ⟨w.heap.size + 1, 0, none⟩ = some (.pointer (some ⟨p2, 0, none⟩)) ∧ W.cell? ⟨w.heap.size + 1, 1, none⟩ = some (.int .i64 e2))) ∧ Hid (XRes (w.heap.size + 2) w1 W))
    ((refine HK.out _ ?_; repeat' (first | with_reducible assumption | with_reducible exact HQR | with_reducible refine xr_al ?_ _ | with_reducible refine xr_dr ?_ | with_reducible refine xr_store ?_ _ _)))
    (first
      | (go_at_call 87; first
          | (with_reducible refine (HL1.out _ (And.right (by assumption)) (HBQ.out _ (And.right (by assumption)))).mono ?_; rintro r w3 ⟨q1, rfl, HF1, HX1⟩)
          | (with_reducible refine (HL2.out _ (And.right (by assumption)) (HBQ.out _ (And.right (by assumption)))).mono ?_; rintro r w4 ⟨q2, rfl, HF2, HX2⟩)
          | fail)
      | (go_at_call 86; first | (with_reducible refine (HADD.out _ _ _ _ (And.right (by assumption)) (side1 HF1 HF2 HP HS0)).mono ?_; rintro r w5 ⟨x0, y0, rfl, HF5, fz, c0, c1, HX5⟩) | (with_reducible refine (HADD.out _ _ _ _ (And.right (by assumption)) (side2 HF1 HF2 HP HS0)).mono ?_; rintro r w5 ⟨x0, y0, rfl, HF5, fz, c0, c1, HX5⟩) | (with_reducible refine (HADD.out _ _ _ _ (And.right (by assumption)) (side3 HF1 HF2)).mono ?_; rintro r w5 ⟨x0, y0, rfl, HF5, fz, c0, c1, HX5⟩) | fail)
      | fail)
  all_goals go_wp2
  · exact bodyPost_ret (v := .agg #[.pointer (some ⟨w1.heap.size, 0, none⟩), .int .i64 e]) (by simp [results, Tryz.results41, go_sem, c0, c1]) rfl ⟨w1.heap.size, rfl, by have := HS0.out; have := HF5.out.2.1; omega, HF5.out.1.stored (by have := HS0.out; have := HF5.out.2.1; omega) HF5.out.2.2 _ _, HB0.out.trans ((xr_store HX5 _ _).out.1.below HB0.out.size (by omega))⟩
  · exact bodyPost_ret (v := .agg #[.pointer (some ⟨w3.heap.size, 0, none⟩), .int .i64 e]) (by simp [results, Tryz.results41, go_sem, c0, c1]) rfl ⟨w3.heap.size, rfl, by have := HS0.out; have := HF5.out.2.1; omega, HF5.out.1.stored (by have := HS0.out; have := HF5.out.2.1; omega) HF5.out.2.2 _ _, HB0.out.trans ((xr_store HX5 _ _).out.1.below HB0.out.size (by omega))⟩
  · exact bodyPost_ret (v := .agg #[.pointer (some ⟨w4.heap.size, 0, none⟩), .int .i64 e]) (by simp [results, Tryz.results41, go_sem, c0, c1]) rfl ⟨w4.heap.size, rfl, by have := HS0.out; have := HF5.out.2.1; omega, HF5.out.1.stored (by have := HS0.out; have := HF5.out.2.1; omega) HF5.out.2.2 _ _, HB0.out.trans ((xr_store HX5 _ _).out.1.below HB0.out.size (by omega))⟩
set_option maxRecDepth 4000 in
set_option maxHeartbeats 1000000 in
/-- Add where the first is 0: the second; where the second is: the first. -/
theorem xAdd_left (p1 p2 b1 : Nat) (e1 e2 e : Int) (w : World) (h1 : NumAt w p1 0 b1) (he : min e1 e2 = e) :
    Calls Tryz.prog 41 #[.agg #[.pointer (some ⟨p1, 0, none⟩), .int .i64 e1], .agg #[.pointer (some ⟨p2, 0, none⟩), .int .i64 e2]] w fun r w' => r = .returned (.agg #[.pointer (some ⟨p2, 0, none⟩), .int .i64 e2]) ∧ ∃ W0, Below w.heap.size w W0 ∧ W0.heap.size = w.heap.size + 3 ∧ W0.heap[w.heap.size + 2]? = some (XBox none 0) ∧ w' = (W0.setCell ⟨w.heap.size + 2, 0, none⟩ (.pointer (some ⟨p2, 0, none⟩))).setCell ⟨w.heap.size + 2, 1, none⟩ (.int .i64 e2) := by
  obtain ⟨W0, hW0⟩ : ∃ V, Hid (((w.alloc (XBox (some ⟨p1, 0, none⟩) e1)).alloc (XBox (some ⟨p2, 0, none⟩) e2)).alloc (XBox none 0) = V) := ⟨_, rfl⟩
  obtain ⟨g1, g2, g3⟩ := three_blk w (XBox (some ⟨p1, 0, none⟩) e1) (XBox (some ⟨p2, 0, none⟩) e2) (XBox none 0)
  have HS0 : Hid (W0.heap.size = w.heap.size + 3) := by
    show W0.heap.size = w.heap.size + 3
    rw [← hW0.out]; simp
  have HB0 : Hid (Below w.heap.size w W0) := by
    rw [← hW0.out]
    exact (((Below.refl _ _).alloc (Nat.le_refl _) _).alloc (by simp) _).alloc (by simp; omega) _
  rw [hW0.out] at g1 g2 g3
  have HG1 : Hid (Calls Tryz.prog 69 #[.pointer (some ⟨p1, 0, none⟩)] W0 fun r w' => r = .returned (.int .i64 0) ∧ w' = W0) := NSign p1 0 b1 W0 (h1.below HB0.out)
  obtain ⟨y00, y01, _⟩ := xcells_of (show W0.heap[w.heap.size]? = some (.cells #[.pointer (some ⟨p1, 0, none⟩), .int .i64 e1] 46) from g1)
  obtain ⟨y10, y11, _⟩ := xcells_of (show W0.heap[w.heap.size + 1]? = some (.cells #[.pointer (some ⟨p2, 0, none⟩), .int .i64 e2] 46) from g2)
  obtain ⟨z0, z1, z2⟩ := xcells_of (show W0.heap[w.heap.size + 1 + 1]? = some (.cells #[.pointer none, .int .i64 0] 46) from g3)
  have HG3 := hid g3
  unfold XBox at hW0
  have hW0' := hW0.out
  clear h1 g1 g2 g3
  go_enter Tryz.func41, Tryz.ntmps41
  go_wp2_with fail
  refine HG1.out.mono ?_
  rintro r w1 ⟨rfl, rfl⟩
  go_wp2
  exact bodyPost_ret (v := .agg #[.pointer (some ⟨p2, 0, none⟩), .int .i64 e2]) (by simp [results, Tryz.results41, go_sem, z0, z1]) rfl ⟨rfl, w1, HB0.out, HS0.out, HG3.out, rfl⟩
set_option maxRecDepth 4000 in
set_option maxHeartbeats 1000000 in
theorem xAdd_right (p1 p2 b1 b2 : Nat) (v1 e1 e2 e : Int) (w : World) (h1 : NumAt w p1 v1 b1) (h2 : NumAt w p2 0 b2) (hv1 : v1 ≠ 0) (he : min e1 e2 = e) :
    Calls Tryz.prog 41 #[.agg #[.pointer (some ⟨p1, 0, none⟩), .int .i64 e1], .agg #[.pointer (some ⟨p2, 0, none⟩), .int .i64 e2]] w fun r w' => r = .returned (.agg #[.pointer (some ⟨p1, 0, none⟩), .int .i64 e1]) ∧ ∃ W0, Below w.heap.size w W0 ∧ W0.heap.size = w.heap.size + 3 ∧ W0.heap[w.heap.size + 2]? = some (XBox none 0) ∧ w' = (W0.setCell ⟨w.heap.size + 2, 0, none⟩ (.pointer (some ⟨p1, 0, none⟩))).setCell ⟨w.heap.size + 2, 1, none⟩ (.int .i64 e1) := by
  obtain ⟨W0, hW0⟩ : ∃ V, Hid (((w.alloc (XBox (some ⟨p1, 0, none⟩) e1)).alloc (XBox (some ⟨p2, 0, none⟩) e2)).alloc (XBox none 0) = V) := ⟨_, rfl⟩
  obtain ⟨g1, g2, g3⟩ := three_blk w (XBox (some ⟨p1, 0, none⟩) e1) (XBox (some ⟨p2, 0, none⟩) e2) (XBox none 0)
  have HS0 : Hid (W0.heap.size = w.heap.size + 3) := by
    show W0.heap.size = w.heap.size + 3
    rw [← hW0.out]; simp
  have HB0 : Hid (Below w.heap.size w W0) := by
    rw [← hW0.out]
    exact (((Below.refl _ _).alloc (Nat.le_refl _) _).alloc (by simp) _).alloc (by simp; omega) _
  rw [hW0.out] at g1 g2 g3
  have HG1 : Hid (Calls Tryz.prog 69 #[.pointer (some ⟨p1, 0, none⟩)] W0 fun r w' => r = .returned (.int .i64 (sgnZ v1)) ∧ w' = W0) := NSign p1 v1 b1 W0 (h1.below HB0.out)
  have HG2 : Hid (Calls Tryz.prog 69 #[.pointer (some ⟨p2, 0, none⟩)] W0 fun r w' => r = .returned (.int .i64 0) ∧ w' = W0) := NSign p2 0 b2 W0 (h2.below HB0.out)
  have hs1 : ¬ sgnZ v1 = 0 := by unfold sgnZ; split <;> (try split) <;> omega
  obtain ⟨S1, hS1⟩ : ∃ S, Hid (sgnZ v1 = S) := ⟨_, rfl⟩
  rw [hS1.out] at HG1 hs1
  obtain ⟨y00, y01, _⟩ := xcells_of (show W0.heap[w.heap.size]? = some (.cells #[.pointer (some ⟨p1, 0, none⟩), .int .i64 e1] 46) from g1)
  obtain ⟨y10, y11, _⟩ := xcells_of (show W0.heap[w.heap.size + 1]? = some (.cells #[.pointer (some ⟨p2, 0, none⟩), .int .i64 e2] 46) from g2)
  obtain ⟨z0, z1, z2⟩ := xcells_of (show W0.heap[w.heap.size + 1 + 1]? = some (.cells #[.pointer none, .int .i64 0] 46) from g3)
  have HG3 := hid g3
  unfold XBox at hW0
  have hW0' := hW0.out
  clear h1 h2 g1 g2 g3 hv1
  go_enter Tryz.func41, Tryz.ntmps41
  go_wp2_with fail
  refine HG1.out.mono ?_
  rintro r w1 ⟨rfl, rfl⟩
  go_wp2_with fail
  refine HG2.out.mono ?_
  rintro r w1 ⟨rfl, rfl⟩
  go_wp2
  exact bodyPost_ret (v := .agg #[.pointer (some ⟨p1, 0, none⟩), .int .i64 e1]) (by simp [results, Tryz.results41, go_sem, z0, z1]) rfl ⟨rfl, w1, HB0.out, HS0.out, HG3.out, rfl⟩
end Go.Proofs.YtehnkgonhgjeiaaGreatDoor
