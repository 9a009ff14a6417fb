
/- What the document's Int64 and within do. -/
import Derived.Test.YtpgcelbgmpfliaaGreatDoorV34
import Derived.Test.YtpgcelbgmpfliaaGreatDoorV35
namespace Go.Proofs.YtpgcelbgmpfliaaGreatDoor
open Go.RowKit Go.IntWalk

theorem num_cells {W : World} {b : Nat} {v0 v1 v2 v3 : Value} {T : TypeId} (h : W.heap[b]? = some (.cells #[v0, v1, v2, v3] T)) : W.cell? ⟨b, 0, none⟩ = some v0 ∧ W.cell? ⟨b, 1, none⟩ = some v1 ∧ W.cell? ⟨b, 2, none⟩ = some v2 ∧ W.cell? ⟨b, 3, none⟩ = some v3 ∧ (∀ o, W.frozen? ⟨b, o, none⟩ = false) :=
  ⟨by simp [World.cell?, h], by simp [World.cell?, h], by simp [World.cell?, h], by simp [World.cell?, h], fun o => by simp [World.frozen?, h]⟩
theorem tcells {w W : World} {T T2 : TypeId} {a b c d e f g h : Value} (hb : Below (w.heap.size + 2) ((w.alloc (.cells #[a, b, c, d] T)).alloc (.cells #[e, f, g, h] T2)) W) : (W.cell? ⟨w.heap.size, 0, none⟩ = some a ∧ W.cell? ⟨w.heap.size, 1, none⟩ = some b ∧ W.cell? ⟨w.heap.size, 2, none⟩ = some c ∧ W.cell? ⟨w.heap.size, 3, none⟩ = some d) ∧ (W.cell? ⟨w.heap.size + 1, 0, none⟩ = some e ∧ W.cell? ⟨w.heap.size + 1, 1, none⟩ = some f ∧ W.cell? ⟨w.heap.size + 1, 2, none⟩ = some g ∧ W.cell? ⟨w.heap.size + 1, 3, none⟩ = some h) ∧ (∀ o, W.frozen? ⟨w.heap.size + 1, o, none⟩ = false) := by
  have h2 : (w.alloc (.cells #[a, b, c, d] T)).heap.size = w.heap.size + 1 := by simp
  refine ⟨⟨?_, ?_, ?_, ?_⟩, ⟨?_, ?_, ?_, ?_⟩, fun o => ?_⟩
  all_goals first
    | (rw [hb.cell (p := ⟨w.heap.size, _, none⟩) (by show w.heap.size < _; omega)]; simp [go_sem])
    | (rw [hb.cell (p := ⟨w.heap.size + 1, _, none⟩) (by show w.heap.size + 1 < _; omega)]; simp [go_sem])
    | (rw [hb.frozen (p := ⟨w.heap.size + 1, _, none⟩) (by show w.heap.size + 1 < _; omega)]; simp [go_sem])
/-- What lies elsewhere stays a number. -/
theorem NumAt.same {w w' : World} {z : Nat} {v : Int} {bd : Nat} (h : NumAt w z v bd) (P : Nat → Prop) (hs : w.heap.size ≤ w'.heap.size) (hblk : ∀ k, k < w.heap.size → ¬ P k → w'.heap[k]? = w.heap[k]?) (hz : ¬ P z) (hno : ∀ k, P k → ∀ o n, w.cell? ⟨k, o, none⟩ ≠ some (.int .u32 n)) : NumAt w' z v bd := by
  have hzl := h.lt
  obtain ⟨neg, L, h1, h2, a, cap, ho, hcap, hm, hd, hc, hn⟩ := h
  refine ⟨neg, L, h1, h2, a, cap, by rw [hblk z hzl hz]; exact ho, hcap, ?_, hd, hc, hn⟩
  intro i hi
  obtain ⟨b, off, e, hlt, hcl⟩ := hm i hi
  have hb : ¬ P b := fun c => hno b c _ _ hcl
  exact ⟨b, off, e, Nat.lt_of_lt_of_le hlt hs, by rw [← hcl]; exact World.cell?_of_block (hblk b hlt hb)⟩
theorem no_u32 {W : World} {b : Nat} {a d : Int} {c : Bool} {p : Option Addr} {T : TypeId} (h : W.heap[b]? = some (.cells #[.int .i64 a, .bool c, .pointer p, .int .i64 d] T)) : ∀ o n, W.cell? ⟨b, o, none⟩ ≠ some (.int .u32 n) := by
  intro o n
  rcases o with _ | _ | _ | _ | o
  · simp [World.cell?, h]
  · simp [World.cell?, h]
  · simp [World.cell?, h]
  · simp [World.cell?, h]
  · simp [World.cell?, h]
theorem rblk {w W : World} {o1 o2 : Obj} (h : Below (w.heap.size + 2) ((w.alloc o1).alloc o2) W) : W.heap[w.heap.size + 1]? = some o2 := by
  rw [h.block (w.heap.size + 1) (by omega)]
  show ((w.alloc o1).heap.push _)[w.heap.size + 1]? = _
  rw [show w.heap.size + 1 = (w.alloc o1).heap.size by simp, Array.getElem?_push_size]
/-- All is as it was, but for two blocks and what is new. -/
structure Upd (r nb : Nat) (w W : World) : Prop where
  os : W.os = w.os
  tape : W.tape = w.tape
  output : W.output = w.output
  size : w.heap.size ≤ W.heap.size
  block : ∀ k, k < w.heap.size → k ≠ r → k ≠ nb → W.heap[k]? = w.heap[k]?
theorem Upd.refl (r nb : Nat) (w : World) : Upd r nb w w := ⟨rfl, rfl, rfl, Nat.le_refl _, fun _ _ _ _ => rfl⟩
theorem Upd.setr {r nb : Nat} {w W : World} (h : Upd r nb w W) (o : Nat) (v : Value) : Upd r nb w (W.setCell ⟨r, o, none⟩ v) :=
  ⟨h.os, h.tape, h.output, by simpa [World.setCell] using h.size, fun k hk h1 h2 => by rw [Below.heap_setCell _ _ _ _ h1]; exact h.block k hk h1 h2⟩
theorem Upd.setn {r nb : Nat} {w W : World} (h : Upd r nb w W) (o : Nat) (v : Value) : Upd r nb w (W.setCell ⟨nb, o, none⟩ v) :=
  ⟨h.os, h.tape, h.output, by simpa [World.setCell] using h.size, fun k hk h1 h2 => by rw [Below.heap_setCell _ _ _ _ h2]; exact h.block k hk h1 h2⟩
theorem Upd.setnew {r nb : Nat} {w W : World} (h : Upd r nb w W) (o : Nat) (v : Value) : Upd r nb w (W.setCell ⟨w.heap.size, o, none⟩ v) :=
  ⟨h.os, h.tape, h.output, by simpa [World.setCell] using h.size, fun k hk h1 h2 => by rw [Below.heap_setCell _ _ _ _ (by show k ≠ w.heap.size; omega)]; exact h.block k hk h1 h2⟩
theorem Upd.alloc {r nb : Nat} {w W : World} (h : Upd r nb w W) (o : Obj) : Upd r nb w (W.alloc o) :=
  ⟨h.os, h.tape, h.output, by have := h.size; simp; omega, fun k hk h1 h2 => by
    rw [(al_below W o).block k (Nat.lt_of_lt_of_le hk h.size)]; exact h.block k hk h1 h2⟩
theorem Upd.below {r nb : Nat} {w w1 W : World} (h : Upd r nb w1 W) (hb : Below w.heap.size w w1) (h1 : w.heap.size ≤ r) (h2 : w.heap.size ≤ nb) : Below w.heap.size w W :=
  ⟨h.os.trans hb.os, h.tape.trans hb.tape, h.output.trans hb.output, Nat.le_trans hb.size h.size, fun k hk => by rw [h.block k (Nat.lt_of_lt_of_le hk hb.size) (by omega) (by omega)]; exact hb.block k hk⟩
theorem numE {w1 : World} {z r nb bd : Nat} {v : Int} {a d a' d' : Int} {c c' : Bool} {p p' : Option Addr} {T T' : TypeId} (h : NumAt w1 z v bd) (hr : w1.heap[r]? = some (.cells #[.int .i64 a, .bool c, .pointer p, .int .i64 d] T)) (hn : w1.heap[nb]? = some (.cells #[.int .i64 a', .bool c', .pointer p', .int .i64 d'] T')) (h1 : z ≠ r) (h2 : z ≠ nb) :
    Hid (∀ W', Upd r nb w1 W' → NumAt W' z v bd) := fun W' hu =>
  h.same (fun k => k = r ∨ k = nb) hu.size (fun k hk hP => hu.block k hk (fun c => hP (Or.inl c)) (fun c => hP (Or.inr c))) (fun c => c.elim h1 h2) (fun k hk => by
    rcases hk with rfl | rfl
    · exact no_u32 hr
    · exact no_u32 hn)
end Go.Proofs.YtpgcelbgmpfliaaGreatDoor

namespace Go.Proofs.YtpgcelbgmpfliaaGreatDoor
open Go.RowKit Go.IntWalk

theorem fblk {w W : World} {o1 o2 : Obj} (h : Below (w.heap.size + 2) ((w.alloc o1).alloc o2) W) : W.heap[w.heap.size]? = some o1 := by
  rw [h.block w.heap.size (by omega), (al_below (w.alloc o1) o2).block w.heap.size (by simp)]
  show (w.heap.push _)[w.heap.size]? = _
  rw [Array.getElem?_push_size]
theorem set4 {w : World} {n : Nat} {u0 u1 u2 u3 v0 v1 v2 v3 : Value} {T : TypeId} (h : w.heap[n]? = some (.cells #[u0, u1, u2, u3] T)) : ((((w.setCell ⟨n, 0, none⟩ v0).setCell ⟨n, 1, none⟩ v1).setCell ⟨n, 2, none⟩ v2).setCell ⟨n, 3, none⟩ v3).heap[n]? = some (.cells #[v0, v1, v2, v3] T) := by
  simp [World.setCell, Array.getElem?_modify, h]
/-- SetUint64 in the midst of Take: the three blocks beside stay. -/
theorem take_mid (w W : World) (z a r n mm bd : Nat) (v : Int) {x0 x1 x2 x3 : Value} {T T' : TypeId} {n0 n3 : Int} {n1 : Bool} {n2 : Option Addr} {m0 m3 : Int} {m1 : Bool} {m2 : Option Addr} (hb : Below w.heap.size w W) (hz : NumAt W z v bd) (hF : W.heap[a]? = some (.cells #[x0, x1, x2, x3] T))
    (hR : W.heap[r]? = some (.cells #[.int .i64 m0, .bool m1, .pointer m2, .int .i64 m3] T')) (hN : W.heap[n]? = some (.cells #[.int .i64 n0, .bool n1, .pointer n2, .int .i64 n3] T')) (h1 : a ≠ z) (h2 : r ≠ z) (h3 : n ≠ z) (hwz : w.heap.size ≤ z) (hm : mm < 18446744073709551616) :
    Calls Tryz.prog 40 #[.pointer (some ⟨z, 0, none⟩), .int .u64 mm] W fun q w2 => q = .returned (.pointer (some ⟨z, 0, none⟩)) ∧
      (w2.cell? ⟨a, 0, none⟩ = some x0 ∧ w2.cell? ⟨a, 1, none⟩ = some x1 ∧ w2.cell? ⟨a, 2, none⟩ = some x2 ∧ w2.cell? ⟨a, 3, none⟩ = some x3) ∧
      (w2.cell? ⟨r, 0, none⟩ = some (.int .i64 m0) ∧ w2.cell? ⟨r, 1, none⟩ = some (.bool m1) ∧ w2.cell? ⟨r, 2, none⟩ = some (.pointer m2) ∧ w2.cell? ⟨r, 3, none⟩ = some (.int .i64 m3) ∧ (∀ o, w2.frozen? ⟨r, o, none⟩ = false)) ∧
      (w2.cell? ⟨n, 0, none⟩ = some (.int .i64 n0) ∧ w2.cell? ⟨n, 1, none⟩ = some (.bool n1) ∧ w2.cell? ⟨n, 2, none⟩ = some (.pointer n2) ∧ w2.cell? ⟨n, 3, none⟩ = some (.int .i64 n3) ∧ (∀ o, w2.frozen? ⟨n, o, none⟩ = false)) ∧
      Hid (∀ W', Upd r n w2 W' → NumAt W' z (mm : Int) 2) ∧ Hid (Below w.heap.size w w2) := by
  refine (NSetU z mm W hz.zok hm).mono ?_
  rintro q w2 ⟨rfl, e1, e2⟩
  have lt {k : Nat} {o : Obj} (h : W.heap[k]? = some o) : k < W.heap.size := (Array.getElem?_eq_some_iff.1 h).1
  have bF := (e2.block a (lt hF) h1).trans hF
  have bR := (e2.block r (lt hR) h2).trans hR
  have bN := (e2.block n (lt hN) h3).trans hN
  obtain ⟨f0, f1, f2, f3, _⟩ := num_cells bF
  exact ⟨rfl, ⟨f0, f1, f2, f3⟩, num_cells bR, num_cells bN, numE e1 bR bN (fun c => h2 c.symm) (fun c => h3 c.symm), hb.trans (e2.below hb.size hwz)⟩
end Go.Proofs.YtpgcelbgmpfliaaGreatDoor

namespace Go.Proofs.YtpgcelbgmpfliaaGreatDoor
open Go.RowKit Go.IntWalk

set_option maxHeartbeats 1000000 in
theorem NInt64 (x : Nat) (v : Int) (bd : Nat) (w : World) (hx : NumAt w x v bd) (h1 : -9223372036854775808 ≤ v) (h2 : v ≤ 9223372036854775807) :
    Calls Tryz.prog 68 #[.pointer (some ⟨x, 0, none⟩)] w fun r w' => r = .returned (.int .i64 v) ∧ w' = w := by
  obtain ⟨neg, L, hv, hL, hB⟩ := hx
  obtain ⟨a, cap, ho, hcap, hm, hd, hc, hn⟩ := id hB
  obtain ⟨c0, c1, hf, hlt⟩ := int_cells ho
  have hnv : natL L = v.natAbs := by rw [← hv]; unfold intL; cases neg <;> simp
  have hlen : L.length ≤ 2 := len_small L 2 hc (by rw [hnv]; simp only [Nat.reducePow]; omega)
  have HU := hid (Uint64_any x neg L w hB hlen)
  obtain ⟨n, hnn⟩ : ∃ n, Hid (natL L = n) := ⟨_, rfl⟩
  rw [hnn.out] at HU hnv
  have hv2 : v = if neg = true then -(n : Int) else (n : Int) := by rw [← hv]; unfold intL; rw [hnn.out]
  cases neg
  · simp only [Bool.false_eq_true, if_false] at hv2
    subst hv2
    have hw : IntKind.i64.wrap (n : Int) = (n : Int) := by rw [IntWalk.i64_in _ (by omega)]
    clear h1 h2 hnv hm hd hc hn ho hcap hL hlen hv hB
    go_enter Tryz.func68, Tryz.ntmps68
    go_wp2_with fail
    refine HU.out.mono ?_
    rintro r w1 ⟨rfl, rfl⟩
    go_wp2
    go_ret
    exact ⟨by first | rfl | simp, rfl⟩
  · simp only [if_true] at hv2
    subst hv2
    obtain ⟨V, hV⟩ : ∃ V : Int, Hid (IntKind.u64.wrap (-(n : Int)) = V) := ⟨_, rfl⟩
    have hw1 : IntKind.u64.wrap (-(n : Int)) = V := hV.out
    have hw : IntKind.i64.wrap V = -(n : Int) := by
      rw [← hw1, IntKind.wrap_u64, IntKind.wrap_i64]
      omega
    clear h1 h2 hnv hm hd hc hn ho hcap hL hlen hv hB
    go_enter Tryz.func68, Tryz.ntmps68
    go_wp2_with fail
    refine HU.out.mono ?_
    rintro r w1 ⟨rfl, rfl⟩
    go_wp2
    go_ret
    exact ⟨by first | rfl | simp, rfl⟩
/-- What within gives: a whole number from lo to hi, and the flags. -/
def wiV (neg : Bool) (Q lo hi : Int) : Int := if Q < lo ∨ hi < Q then (if neg = true then lo else hi) else Q
def wiF (B : Bool) (Q lo hi : Int) : Int := if Q < lo ∨ hi < Q then 8 else if B = true then 1 else 0
set_option maxHeartbeats 2000000 in
theorem rwithin_fin (x lo hi m Q : Nat) (vl vh E mode : Int) (neg B : Bool) (w : World) (hlo : NumAt w lo vl 80) (hhi : NumAt w hi vh 80)
    (hT : ∀ W, Calls Tryz.prog 54 #[.agg #[.int .i64 53, .int .i64 (-1022), .int .i64 1023, .int .i64 11], .int .u64 x] W fun r w' => ∃ z, r = .returned (.agg #[.int .i64 0, .bool neg, .pointer (some ⟨z, 0, none⟩), .int .i64 E]) ∧ NumAt w' z (m : Int) 2 ∧ Below W.heap.size W w')
    (hW : ∀ W z, NumAt W z (m : Int) 2 → Calls Tryz.prog 57 #[.agg #[.int .i64 0, .bool neg, .pointer (some ⟨z, 0, none⟩), .int .i64 E], .int .i64 mode] W fun r w' => ∃ q, r = .returned (.tuple #[.pointer (some ⟨q, 0, none⟩), .bool B]) ∧ NumAt w' q (Q : Int) 80 ∧ W.heap.size ≤ q ∧ Below W.heap.size W w') :
    Calls Tryz.prog 65 #[.int .u64 x, .pointer (some ⟨lo, 0, none⟩), .pointer (some ⟨hi, 0, none⟩), .int .i64 mode] w fun r w' => ∃ q, r = .returned (.tuple #[.pointer (some ⟨q, 0, none⟩), .int .i64 (wiF B (if neg = true then -(Q : Int) else (Q : Int)) vl vh)]) ∧ NumAt w' q (wiV neg (if neg = true then -(Q : Int) else (Q : Int)) vl vh) 80 ∧ Below w.heap.size w w' := by
  have HL := hid hlo
  have HH := hid hhi
  have HT := hid hT
  have HW := hid hW
  have hll := hlo.lt
  have hhl := hhi.lt
  obtain ⟨V, hV⟩ : ∃ V : Int, Hid ((if neg = true then -(Q : Int) else (Q : Int)) = V) := ⟨_, rfl⟩
  rw [hV.out]
  -- from the whole number on
  have HC : Hid (∀ W q, NumAt W q V 80 → Below w.heap.size w W → Calls Tryz.prog 109 #[.pointer (some ⟨q, 0, none⟩), .pointer (some ⟨lo, 0, none⟩)] W fun r w' => r = .returned (.int .i64 (cmpZ V vl)) ∧ Hid (Below W.heap.size W w')) := fun W q hq hb => NCmp q lo V vl 80 80 W hq (hlo.below hb) (by decide) (by decide)
  have HD : Hid (∀ W q, NumAt W q V 80 → Below w.heap.size w W → Calls Tryz.prog 109 #[.pointer (some ⟨q, 0, none⟩), .pointer (some ⟨hi, 0, none⟩)] W fun r w' => r = .returned (.int .i64 (cmpZ V vh)) ∧ Hid (Below W.heap.size W w')) := fun W q hq hb => NCmp q hi V vh 80 80 W hq (hhi.below hb) (by decide) (by decide)
  clear hlo hhi hT hW
  obtain ⟨F, hF⟩ : ∃ F, Hid (wiF B V vl vh = F) := ⟨_, rfl⟩
  obtain ⟨U, hU⟩ : ∃ U, Hid (wiV neg V vl vh = U) := ⟨_, rfl⟩
  rw [hF.out, hU.out]
  go_enter Tryz.func65, Tryz.ntmps65
  go_wp2_with fail
  refine (Double_any _).mono ?_
  rintro r w1 ⟨rfl, b1⟩
  have B1 := hid b1
  clear b1
  go_wp2_with fail
  refine (HT.out _).mono ?_
  rintro r w2 ⟨z, rfl, h2, b2⟩
  have H2 := hid h2
  have B2 := hid (bl_then B1.out b2)
  clear h2 b2
  have HWH : Hid (∀ W, Below (w2.heap.size + 1) (w2.alloc (.cells #[.int .i64 0, .bool neg, .pointer (some ⟨z, 0, none⟩), .int .i64 E] 88)) W → Calls Tryz.prog 57 #[.agg #[.int .i64 0, .bool neg, .pointer (some ⟨z, 0, none⟩), .int .i64 E], .int .i64 mode] W fun r w' => ∃ q, r = .returned (.tuple #[.pointer (some ⟨q, 0, none⟩), .bool B]) ∧ Hid (NumAt w' q (Q : Int) 80) ∧ w2.heap.size + 1 ≤ q ∧ Hid (Below (w2.heap.size + 1) (w2.alloc (.cells #[.int .i64 0, .bool neg, .pointer (some ⟨z, 0, none⟩), .int .i64 E] 88)) w')) := fun W hW => by
    have hsz : w2.heap.size + 1 ≤ W.heap.size := by have := hW.size; simp at this; omega
    refine (HW.out W z (H2.out.below (bl_B hW))).mono ?_
    rintro r w' ⟨q, rfl, k1, k2, k3⟩
    exact ⟨q, rfl, k1, by omega, fC hW k3 hsz⟩
  clear HT HW
  cases neg
  · go_wp2_with fail
    refine (HWH.out _ (Below.refl _ _)).mono ?_
    rintro r w3 ⟨q, rfl, H3, hq, HF3⟩
    obtain ⟨k0, k1, k2, k3⟩ := fcells HF3.out
    have hVV : (Q : Int) = V := hV.out
    rw [hVV] at H3
    have H5 := H3
    have B3 : Hid (Below w.heap.size w w3) := bl_then B2.out (bl_B HF3.out)
    clear hVV
    go_wp2_with fail
    refine (HC.out _ _ H5.out B3.out).mono ?_
    rintro r w6 ⟨rfl, B6⟩
    have H6 := hid (H5.out.below B6.out)
    have B6' := hid (bl_then B3.out B6.out)
    by_cases h1 : V < vl
    · have e : cmpZ V vl = -1 := by unfold cmpZ; rw [if_pos h1]
      obtain rfl : F = 8 := by rw [← hF.out]; unfold wiF; rw [if_pos (Or.inl h1)]
      obtain rfl : U = vh := by rw [← hU.out]; unfold wiV; rw [if_pos (Or.inl h1)]; rfl
      rw [e]
      clear e h1
      go_wp2
      go_ret2
      exact ⟨_, rfl, HH.out.below B6'.out, B6'.out⟩
    · obtain ⟨c, hc, hcn⟩ : ∃ c, cmpZ V vl = c ∧ decide (c < 0) = false := ⟨_, rfl, by
        apply decide_eq_false
        unfold cmpZ
        rw [if_neg h1]
        split <;> omega⟩
      rw [hc]
      have H1 := hid h1
      clear h1 hc
      go_wp2_with fail
      refine (HD.out _ _ H6.out B6'.out).mono ?_
      rintro r w7 ⟨rfl, B7⟩
      have H7 := hid (H6.out.below B7.out)
      have B7' := hid (bl_then B6'.out B7.out)
      by_cases h2 : vh < V
      · have e : cmpZ V vh = 1 := by unfold cmpZ; rw [if_neg (by omega), if_pos h2]
        obtain rfl : F = 8 := by rw [← hF.out]; unfold wiF; rw [if_pos (Or.inr h2)]
        obtain rfl : U = vh := by rw [← hU.out]; unfold wiV; rw [if_pos (Or.inr h2)]; rfl
        rw [e]
        clear e h2
        go_wp2
        go_ret2
        exact ⟨_, rfl, HH.out.below B7'.out, B7'.out⟩
      · obtain ⟨d, hd, hdn⟩ : ∃ d, cmpZ V vh = d ∧ decide (0 < d) = false := ⟨_, rfl, by
          apply decide_eq_false
          unfold cmpZ
          split
          · omega
          · first | (rw [if_neg h2]; omega) | omega⟩
        have hor : ¬ (V < vl ∨ vh < V) := fun h => by have h1 := H1.out; omega
        obtain rfl : U = V := by rw [← hU.out]; unfold wiV; rw [if_neg hor]
        have hFF : (if B = true then 1 else 0) = F := by rw [← hF.out]; unfold wiF; rw [if_neg hor]
        rw [hd]
        clear h2 hd hor
        cases B
        · obtain rfl : F = 0 := by rw [← hFF]; rfl
          go_wp2
          go_ret2
          exact ⟨_, rfl, H7.out, B7'.out⟩
        · obtain rfl : F = 1 := by rw [← hFF]; rfl
          go_wp2
          go_ret2
          exact ⟨_, rfl, H7.out, B7'.out⟩
  · go_wp2_with fail
    refine (HWH.out _ (Below.refl _ _)).mono ?_
    rintro r w3 ⟨q, rfl, H3, hq, HF3⟩
    obtain ⟨k0, k1, k2, k3⟩ := fcells HF3.out
    have hVV : -(Q : Int) = V := hV.out
    have hql := H3.out.lt
    go_wp2_with fail
    refine (NNeg q q (Q : Int) 80 _ H3.out.zok H3.out (by decide)).mono ?_
    rintro r w5 ⟨rfl, h5, b5⟩
    rw [hVV] at h5
    have H5 := hid h5
    have HF5 : Hid (Below (w2.heap.size + 1) (w2.alloc (.cells #[.int .i64 0, .bool true, .pointer (some ⟨z, 0, none⟩), .int .i64 E] 88)) w5) := HF3.out.trans (b5.below (by have := HF3.out.size; simp at this; omega) hq)
    have B3 : Hid (Below w.heap.size w w5) := bl_then B2.out (bl_B HF5.out)
    clear h5 b5 hVV
    go_wp2_with fail
    refine (HC.out _ _ H5.out B3.out).mono ?_
    rintro r w6 ⟨rfl, B6⟩
    have H6 := hid (H5.out.below B6.out)
    have B6' := hid (bl_then B3.out B6.out)
    by_cases h1 : V < vl
    · have e : cmpZ V vl = -1 := by unfold cmpZ; rw [if_pos h1]
      obtain rfl : F = 8 := by rw [← hF.out]; unfold wiF; rw [if_pos (Or.inl h1)]
      obtain rfl : U = vl := by rw [← hU.out]; unfold wiV; rw [if_pos (Or.inl h1)]; rfl
      rw [e]
      clear e h1
      go_wp2
      go_ret2
      exact ⟨_, rfl, HL.out.below B6'.out, B6'.out⟩
    · obtain ⟨c, hc, hcn⟩ : ∃ c, cmpZ V vl = c ∧ decide (c < 0) = false := ⟨_, rfl, by
        apply decide_eq_false
        unfold cmpZ
        rw [if_neg h1]
        split <;> omega⟩
      rw [hc]
      have H1 := hid h1
      clear h1 hc
      go_wp2_with fail
      refine (HD.out _ _ H6.out B6'.out).mono ?_
      rintro r w7 ⟨rfl, B7⟩
      have H7 := hid (H6.out.below B7.out)
      have B7' := hid (bl_then B6'.out B7.out)
      by_cases h2 : vh < V
      · have e : cmpZ V vh = 1 := by unfold cmpZ; rw [if_neg (by omega), if_pos h2]
        obtain rfl : F = 8 := by rw [← hF.out]; unfold wiF; rw [if_pos (Or.inr h2)]
        obtain rfl : U = vl := by rw [← hU.out]; unfold wiV; rw [if_pos (Or.inr h2)]; rfl
        rw [e]
        clear e h2
        go_wp2
        go_ret2
        exact ⟨_, rfl, HL.out.below B7'.out, B7'.out⟩
      · obtain ⟨d, hd, hdn⟩ : ∃ d, cmpZ V vh = d ∧ decide (0 < d) = false := ⟨_, rfl, by
          apply decide_eq_false
          unfold cmpZ
          split
          · omega
          · first | (rw [if_neg h2]; omega) | omega⟩
        have hor : ¬ (V < vl ∨ vh < V) := fun h => by have h1 := H1.out; omega
        obtain rfl : U = V := by rw [← hU.out]; unfold wiV; rw [if_neg hor]
        have hFF : (if B = true then 1 else 0) = F := by rw [← hF.out]; unfold wiF; rw [if_neg hor]
        rw [hd]
        clear h2 hd hor
        cases B
        · obtain rfl : F = 0 := by rw [← hFF]; rfl
          go_wp2
          go_ret2
          exact ⟨_, rfl, H7.out, B7'.out⟩
        · obtain rfl : F = 1 := by rw [← hFF]; rfl
          go_wp2
          go_ret2
          exact ⟨_, rfl, H7.out, B7'.out⟩
end Go.Proofs.YtpgcelbgmpfliaaGreatDoor
