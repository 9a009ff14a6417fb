
/- SetUint64 in the midst of the document's Take. -/
import Derived.Test.YtpgcelbgmpfliaaDoorQ27
import Derived.Test.YtpgcelbgmpfliaaDoorQ28
import Derived.Test.YtpgcelbgmpfliaaDoorQ29
namespace Go.Proofs.YtpgcelbgmpfliaaDoor
open Go Go.RowKit Go.IntWalk

theorem low_unit (P L : Int) (m : Nat) (e mode : Int) (neg : Bool) (p : Nat) (h0 : m ≠ 0) (hp : P = (p : Int)) (p1 : 1 ≤ p) (h : bitLen (rSteps P L m e mode neg) < p) : rUnit P L m e = L - P + 1 := by
  apply Classical.byContradiction
  intro hc
  have hT : L < rTop m e := by unfold rUnit at hc; omega
  have hu : rUnit P L m e = rTop m e - P + 1 := by unfold rUnit; omega
  have h1 : 2 ^ (p - 1) ≤ cutQ m (rUnit P L m e - e) := cutQ_ge m e _ (p - 1) h0 (by rw [hu]; unfold rTop; omega)
  have h2 : 2 ^ (p - 1) ≤ rSteps P L m e mode neg := by
    unfold rSteps stepQ
    omega
  have := lt_bitLen h2
  omega
theorem gr64 : wMag 9007199254740991 971 = 9218868437227405311 := by decide +kernel
theorem gr32 : mag32 16777215 104 = 2139095039 := by decide +kernel
theorem docR64_is (m : Nat) (e mode : Int) (neg : Bool) (h0 : m ≠ 0) (m1 : 0 ≤ mode) (m2 : mode ≤ 4) : docR64 m e mode neg = rMag 53 (-1022) 1023 m e mode neg := by
  unfold docR64 rMag
  by_cases c : rOver 53 (-1022) 1023 m e mode neg
  · rw [if_pos c, if_pos c]
    unfold overM64 bigM
    rw [overB_grows neg mode m1 m2]
    have e1 : wMag (2 ^ (53 : Int).toNat - 1) (1023 - 53 + 1) = 9218868437227405311 := gr64
    rw [e1]
    cases growsOf mode neg true 3 <;> rfl
  · rw [if_neg c, if_neg c]
    obtain ⟨o1, o2, o3⟩ := rOver_not 53 (-1022) 1023 m e mode neg 53 rfl (by decide) (by decide) (by decide) c
    exact doc64 _ _ o1 o2 (fun h => low_unit 53 (-1022) m e mode neg 53 h0 rfl (by decide) h) o3
theorem docR32_is (m : Nat) (e mode : Int) (neg : Bool) (h0 : m ≠ 0) (m1 : 0 ≤ mode) (m2 : mode ≤ 4) : docR32 m e mode neg = nMag m e mode neg := by
  unfold docR32 nMag
  by_cases c : rOver 24 (-126) 127 m e mode neg
  · rw [if_pos c, if_pos c]
    unfold overM32
    rw [overB_grows neg mode m1 m2, gr32]
    cases growsOf mode neg true 3 <;> rfl
  · rw [if_neg c, if_neg c]
    obtain ⟨o1, o2, o3⟩ := steps32 m e mode neg c
    exact doc32 _ _ o1 o2 (fun h => low_unit 24 (-126) m e mode neg 24 h0 rfl (by decide) h) o3
theorem nMag_scale (m k : Nat) (e mode : Int) (neg : Bool) (h0 : m ≠ 0) : nMag (m * 2 ^ k) (e - k) mode neg = nMag m e mode neg := by
  obtain ⟨a, b, c, d⟩ := rnd_scale 24 (-126) 127 m k e mode neg h0
  unfold nMag
  rw [a, b]
  by_cases h : rOver 24 (-126) 127 m e mode neg
  · rw [if_pos h, if_pos (d.2 h)]
  · rw [if_neg h, if_neg (fun x => h (d.1 x))]
theorem rMag_scale (P L H : Int) (m k : Nat) (e mode : Int) (neg : Bool) (h0 : m ≠ 0) : rMag P L H (m * 2 ^ k) (e - k) mode neg = rMag P L H m e mode neg := by
  obtain ⟨a, b, c, d⟩ := rnd_scale P L H m k e mode neg h0
  unfold rMag
  rw [a, b]
  by_cases h : rOver P L H m e mode neg
  · rw [if_pos h, if_pos (d.2 h)]
  · rw [if_neg h, if_neg (fun x => h (d.1 x))]
/-- What bits stand for, by the document: M times 2 to the E. -/
def tM64 (x : Nat) : Nat := if x / 4503599627370496 % 2048 = 0 then x % 4503599627370496 else x % 4503599627370496 + 4503599627370496
def tE64 (x : Nat) : Int := if x / 4503599627370496 % 2048 = 0 then -1074 else ((x / 4503599627370496 % 2048 : Nat) : Int) - 1075
def tM32 (x : Nat) : Nat := if x / 8388608 % 256 = 0 then x % 8388608 else x % 8388608 + 8388608
def tE32 (x : Nat) : Int := if x / 8388608 % 256 = 0 then -149 else ((x / 8388608 % 256 : Nat) : Int) - 150
theorem take64 (x : Nat) (hf : x % 9223372036854775808 < 9218868437227405312) (h0 : x % 9223372036854775808 ≠ 0) : ∃ k : Nat, tM64 x = pMant x * 2 ^ k ∧ tE64 x = pExp x - k ∧ pMant x ≠ 0 := by
  obtain ⟨v1, v2, v3, v4, v5⟩ := parts_val x hf
  have hm : mantOf x ≠ 0 := fun c => h0 (v4.1 c)
  obtain ⟨w1, w2, w3, w4, w5, w6⟩ := v5 hm
  have hm64 : mantOf x < 18446744073709551616 := by have := mant_lt x; omega
  obtain ⟨q, hq, hmq⟩ := odd_spec _ hm hm64
  have he : expOf x = x / 4503599627370496 % 2048 := by unfold expOf; rw [v3]
  have hfr : fracOf x = x % 4503599627370496 := by unfold fracOf; rw [v3]
  refine ⟨tzOf (mantOf x), ?_, ?_, w1⟩
  · have e1 : tM64 x = mantOf x := by
      unfold tM64 mantOf
      rw [← he, ← hfr]
      by_cases c : expOf x = 0
      · rw [if_pos c, if_neg (by omega)]
      · rw [if_neg c, if_pos (by omega)]
    rw [e1]
    unfold pMant
    rw [if_neg v1, hq, Nat.mul_comm]
    exact hmq
  · have hp : pExp x = max (expOf x : Int) 1 - 1075 + (tzOf (mantOf x) : Int) := by
      unfold pExp
      exact if_neg (fun c => c.elim v1 hm)
    have ht : tE64 x = if expOf x = 0 then -1074 else (expOf x : Int) - 1075 := by unfold tE64; rw [he]
    rw [hp, ht]
    by_cases c : expOf x = 0
    · rw [if_pos c, c]; omega
    · rw [if_neg c]; omega
end Go.Proofs.YtpgcelbgmpfliaaDoor

namespace Go.Proofs.YtpgcelbgmpfliaaDoor
open Go.RowKit Go.IntWalk

set_option maxHeartbeats 400000 in
theorem Single_any (w : World) :
    Calls Tryd.prog 38 #[] w fun e w' => e = .returned (.agg #[.int .i64 24, .int .i64 (-126), .int .i64 127, .int .i64 8]) ∧ Below w.heap.size w w' := by
  go_enter Tryd.func38, Tryd.ntmps38
  go_wp2
  exact bodyPost_ret (v := .agg #[.int .i64 24, .int .i64 (-126), .int .i64 127, .int .i64 8]) (by simp [results, Tryd.results38, go_sem]) rfl ⟨rfl, (Below.refl _ _).alloc (Nat.le_refl _) _⟩
set_option maxHeartbeats 400000 in
theorem Double_any (w : World) :
    Calls Tryd.prog 46 #[] w fun e w' => e = .returned (.agg #[.int .i64 53, .int .i64 (-1022), .int .i64 1023, .int .i64 11]) ∧ Below w.heap.size w w' := by
  go_enter Tryd.func46, Tryd.ntmps46
  go_wp2
  exact bodyPost_ret (v := .agg #[.int .i64 53, .int .i64 (-1022), .int .i64 1023, .int .i64 11]) (by simp [results, Tryd.results46, go_sem]) rfl ⟨rfl, (Below.refl _ _).alloc (Nat.le_refl _) _⟩
end Go.Proofs.YtpgcelbgmpfliaaDoor

namespace Go.Proofs.YtpgcelbgmpfliaaDoor
open Go.RowKit Go.IntWalk

theorem num_cells {W : World} {b : Nat} {v0 v1 v2 v3 : Value} {T : TypeId} (h : W.heap[b]? = some (.cells #[v0, v1, v2, v3] T)) : W.cell? ⟨b, 0, none⟩ = some v0 ∧ W.cell? ⟨b, 1, none⟩ = some v1 ∧ W.cell? ⟨b, 2, none⟩ = some v2 ∧ W.cell? ⟨b, 3, none⟩ = some v3 ∧ (∀ o, W.frozen? ⟨b, o, none⟩ = false) :=
  ⟨by simp [World.cell?, h], by simp [World.cell?, h], by simp [World.cell?, h], by simp [World.cell?, h], fun o => by simp [World.frozen?, h]⟩
theorem tcells {w W : World} {T T2 : TypeId} {a b c d e f g h : Value} (hb : Below (w.heap.size + 2) ((w.alloc (.cells #[a, b, c, d] T)).alloc (.cells #[e, f, g, h] T2)) W) : (W.cell? ⟨w.heap.size, 0, none⟩ = some a ∧ W.cell? ⟨w.heap.size, 1, none⟩ = some b ∧ W.cell? ⟨w.heap.size, 2, none⟩ = some c ∧ W.cell? ⟨w.heap.size, 3, none⟩ = some d) ∧ (W.cell? ⟨w.heap.size + 1, 0, none⟩ = some e ∧ W.cell? ⟨w.heap.size + 1, 1, none⟩ = some f ∧ W.cell? ⟨w.heap.size + 1, 2, none⟩ = some g ∧ W.cell? ⟨w.heap.size + 1, 3, none⟩ = some h) ∧ (∀ o, W.frozen? ⟨w.heap.size + 1, o, none⟩ = false) := by
  have h2 : (w.alloc (.cells #[a, b, c, d] T)).heap.size = w.heap.size + 1 := by simp
  refine ⟨⟨?_, ?_, ?_, ?_⟩, ⟨?_, ?_, ?_, ?_⟩, fun o => ?_⟩
  all_goals first
    | (rw [hb.cell (p := ⟨w.heap.size, _, none⟩) (by show w.heap.size < _; omega)]; simp [go_sem])
    | (rw [hb.cell (p := ⟨w.heap.size + 1, _, none⟩) (by show w.heap.size + 1 < _; omega)]; simp [go_sem])
    | (rw [hb.frozen (p := ⟨w.heap.size + 1, _, none⟩) (by show w.heap.size + 1 < _; omega)]; simp [go_sem])
/-- What lies elsewhere stays a number. -/
theorem NumAt.same {w w' : World} {z : Nat} {v : Int} {bd : Nat} (h : NumAt w z v bd) (P : Nat → Prop) (hs : w.heap.size ≤ w'.heap.size) (hblk : ∀ k, k < w.heap.size → ¬ P k → w'.heap[k]? = w.heap[k]?) (hz : ¬ P z) (hno : ∀ k, P k → ∀ o n, w.cell? ⟨k, o, none⟩ ≠ some (.int .u32 n)) : NumAt w' z v bd := by
  have hzl := h.lt
  obtain ⟨neg, L, h1, h2, a, cap, ho, hcap, hm, hd, hc, hn⟩ := h
  refine ⟨neg, L, h1, h2, a, cap, by rw [hblk z hzl hz]; exact ho, hcap, ?_, hd, hc, hn⟩
  intro i hi
  obtain ⟨b, off, e, hlt, hcl⟩ := hm i hi
  have hb : ¬ P b := fun c => hno b c _ _ hcl
  exact ⟨b, off, e, Nat.lt_of_lt_of_le hlt hs, by rw [← hcl]; exact World.cell?_of_block (hblk b hlt hb)⟩
theorem no_u32 {W : World} {b : Nat} {a d : Int} {c : Bool} {p : Option Addr} {T : TypeId} (h : W.heap[b]? = some (.cells #[.int .i64 a, .bool c, .pointer p, .int .i64 d] T)) : ∀ o n, W.cell? ⟨b, o, none⟩ ≠ some (.int .u32 n) := by
  intro o n
  rcases o with _ | _ | _ | _ | o
  · simp [World.cell?, h]
  · simp [World.cell?, h]
  · simp [World.cell?, h]
  · simp [World.cell?, h]
  · simp [World.cell?, h]
theorem rblk {w W : World} {o1 o2 : Obj} (h : Below (w.heap.size + 2) ((w.alloc o1).alloc o2) W) : W.heap[w.heap.size + 1]? = some o2 := by
  rw [h.block (w.heap.size + 1) (by omega)]
  show ((w.alloc o1).heap.push _)[w.heap.size + 1]? = _
  rw [show w.heap.size + 1 = (w.alloc o1).heap.size by simp, Array.getElem?_push_size]
/-- All is as it was, but for two blocks and what is new. -/
structure Upd (r nb : Nat) (w W : World) : Prop where
  os : W.os = w.os
  tape : W.tape = w.tape
  output : W.output = w.output
  size : w.heap.size ≤ W.heap.size
  block : ∀ k, k < w.heap.size → k ≠ r → k ≠ nb → W.heap[k]? = w.heap[k]?
theorem Upd.refl (r nb : Nat) (w : World) : Upd r nb w w := ⟨rfl, rfl, rfl, Nat.le_refl _, fun _ _ _ _ => rfl⟩
theorem Upd.setr {r nb : Nat} {w W : World} (h : Upd r nb w W) (o : Nat) (v : Value) : Upd r nb w (W.setCell ⟨r, o, none⟩ v) :=
  ⟨h.os, h.tape, h.output, by simpa [World.setCell] using h.size, fun k hk h1 h2 => by rw [Below.heap_setCell _ _ _ _ h1]; exact h.block k hk h1 h2⟩
theorem Upd.setn {r nb : Nat} {w W : World} (h : Upd r nb w W) (o : Nat) (v : Value) : Upd r nb w (W.setCell ⟨nb, o, none⟩ v) :=
  ⟨h.os, h.tape, h.output, by simpa [World.setCell] using h.size, fun k hk h1 h2 => by rw [Below.heap_setCell _ _ _ _ h2]; exact h.block k hk h1 h2⟩
theorem Upd.setnew {r nb : Nat} {w W : World} (h : Upd r nb w W) (o : Nat) (v : Value) : Upd r nb w (W.setCell ⟨w.heap.size, o, none⟩ v) :=
  ⟨h.os, h.tape, h.output, by simpa [World.setCell] using h.size, fun k hk h1 h2 => by rw [Below.heap_setCell _ _ _ _ (by show k ≠ w.heap.size; omega)]; exact h.block k hk h1 h2⟩
theorem Upd.alloc {r nb : Nat} {w W : World} (h : Upd r nb w W) (o : Obj) : Upd r nb w (W.alloc o) :=
  ⟨h.os, h.tape, h.output, by have := h.size; simp; omega, fun k hk h1 h2 => by
    rw [(al_below W o).block k (Nat.lt_of_lt_of_le hk h.size)]; exact h.block k hk h1 h2⟩
theorem Upd.below {r nb : Nat} {w w1 W : World} (h : Upd r nb w1 W) (hb : Below w.heap.size w w1) (h1 : w.heap.size ≤ r) (h2 : w.heap.size ≤ nb) : Below w.heap.size w W :=
  ⟨h.os.trans hb.os, h.tape.trans hb.tape, h.output.trans hb.output, Nat.le_trans hb.size h.size, fun k hk => by rw [h.block k (Nat.lt_of_lt_of_le hk hb.size) (by omega) (by omega)]; exact hb.block k hk⟩
theorem numE {w1 : World} {z r nb bd : Nat} {v : Int} {a d a' d' : Int} {c c' : Bool} {p p' : Option Addr} {T T' : TypeId} (h : NumAt w1 z v bd) (hr : w1.heap[r]? = some (.cells #[.int .i64 a, .bool c, .pointer p, .int .i64 d] T)) (hn : w1.heap[nb]? = some (.cells #[.int .i64 a', .bool c', .pointer p', .int .i64 d'] T')) (h1 : z ≠ r) (h2 : z ≠ nb) :
    Hid (∀ W', Upd r nb w1 W' → NumAt W' z v bd) := fun W' hu =>
  h.same (fun k => k = r ∨ k = nb) hu.size (fun k hk hP => hu.block k hk (fun c => hP (Or.inl c)) (fun c => hP (Or.inr c))) (fun c => c.elim h1 h2) (fun k hk => by
    rcases hk with rfl | rfl
    · exact no_u32 hr
    · exact no_u32 hn)
end Go.Proofs.YtpgcelbgmpfliaaDoor

namespace Go.Proofs.YtpgcelbgmpfliaaDoor
open Go.RowKit Go.IntWalk

theorem fblk {w W : World} {o1 o2 : Obj} (h : Below (w.heap.size + 2) ((w.alloc o1).alloc o2) W) : W.heap[w.heap.size]? = some o1 := by
  rw [h.block w.heap.size (by omega), (al_below (w.alloc o1) o2).block w.heap.size (by simp)]
  show (w.heap.push _)[w.heap.size]? = _
  rw [Array.getElem?_push_size]
theorem set4 {w : World} {n : Nat} {u0 u1 u2 u3 v0 v1 v2 v3 : Value} {T : TypeId} (h : w.heap[n]? = some (.cells #[u0, u1, u2, u3] T)) : ((((w.setCell ⟨n, 0, none⟩ v0).setCell ⟨n, 1, none⟩ v1).setCell ⟨n, 2, none⟩ v2).setCell ⟨n, 3, none⟩ v3).heap[n]? = some (.cells #[v0, v1, v2, v3] T) := by
  simp [World.setCell, Array.getElem?_modify, h]
/-- SetUint64 in the midst of Take: the three blocks beside stay. -/
theorem take_mid (w W : World) (z a r n mm bd : Nat) (v : Int) {x0 x1 x2 x3 : Value} {T T' : TypeId} {n0 n3 : Int} {n1 : Bool} {n2 : Option Addr} {m0 m3 : Int} {m1 : Bool} {m2 : Option Addr} (hb : Below w.heap.size w W) (hz : NumAt W z v bd) (hF : W.heap[a]? = some (.cells #[x0, x1, x2, x3] T))
    (hR : W.heap[r]? = some (.cells #[.int .i64 m0, .bool m1, .pointer m2, .int .i64 m3] T')) (hN : W.heap[n]? = some (.cells #[.int .i64 n0, .bool n1, .pointer n2, .int .i64 n3] T')) (h1 : a ≠ z) (h2 : r ≠ z) (h3 : n ≠ z) (hwz : w.heap.size ≤ z) (hm : mm < 18446744073709551616) :
    Calls Tryd.prog 64 #[.pointer (some ⟨z, 0, none⟩), .int .u64 mm] W fun q w2 => q = .returned (.pointer (some ⟨z, 0, none⟩)) ∧
      (w2.cell? ⟨a, 0, none⟩ = some x0 ∧ w2.cell? ⟨a, 1, none⟩ = some x1 ∧ w2.cell? ⟨a, 2, none⟩ = some x2 ∧ w2.cell? ⟨a, 3, none⟩ = some x3) ∧
      (w2.cell? ⟨r, 0, none⟩ = some (.int .i64 m0) ∧ w2.cell? ⟨r, 1, none⟩ = some (.bool m1) ∧ w2.cell? ⟨r, 2, none⟩ = some (.pointer m2) ∧ w2.cell? ⟨r, 3, none⟩ = some (.int .i64 m3) ∧ (∀ o, w2.frozen? ⟨r, o, none⟩ = false)) ∧
      (w2.cell? ⟨n, 0, none⟩ = some (.int .i64 n0) ∧ w2.cell? ⟨n, 1, none⟩ = some (.bool n1) ∧ w2.cell? ⟨n, 2, none⟩ = some (.pointer n2) ∧ w2.cell? ⟨n, 3, none⟩ = some (.int .i64 n3) ∧ (∀ o, w2.frozen? ⟨n, o, none⟩ = false)) ∧
      Hid (∀ W', Upd r n w2 W' → NumAt W' z (mm : Int) 2) ∧ Hid (Below w.heap.size w w2) := by
  refine (NSetU z mm W hz.zok hm).mono ?_
  rintro q w2 ⟨rfl, e1, e2⟩
  have lt {k : Nat} {o : Obj} (h : W.heap[k]? = some o) : k < W.heap.size := (Array.getElem?_eq_some_iff.1 h).1
  have bF := (e2.block a (lt hF) h1).trans hF
  have bR := (e2.block r (lt hR) h2).trans hR
  have bN := (e2.block n (lt hN) h3).trans hN
  obtain ⟨f0, f1, f2, f3, _⟩ := num_cells bF
  exact ⟨rfl, ⟨f0, f1, f2, f3⟩, num_cells bR, num_cells bN, numE e1 bR bN (fun c => h2 c.symm) (fun c => h3 c.symm), hb.trans (e2.below hb.size hwz)⟩
end Go.Proofs.YtpgcelbgmpfliaaDoor
