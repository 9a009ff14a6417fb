
/- What the small calls of layer 1 do: math's bit views, Key, Compare, canon, Same. -/
import Derived.Test.YtpjdmhidhllbkaaDoorRows
import Derived.Test.YtpjdmhidhllbkaaDoorP1
import Derived.WalkKit
import Derived.WalkSpells
import Derived.WalkLawsBesides
import Derived.Deep.RegionHeld3
namespace Go.Proofs.YtpjdmhidhllbkaaDoor
open Go.RowKit

theorem f64bits (b : Nat) (w : World) : (callFunc 20 #[.float .f64 b]).run Tryd.prog w = .ok (.value (.int .u64 b)) w := by
  rw [run_callFunc_extern Tryd.func20 (by kernel_rfl) (by kernel_rfl) (by kernel_rfl) (e := Extern.MathFloatBits.float64bits) (by kernel_rfl)]; rfl
theorem f64from (b : Nat) (w : World) : (callFunc 17 #[.int .u64 b]).run Tryd.prog w = .ok (.value (.float .f64 b)) w := by
  rw [run_callFunc_extern Tryd.func17 (by kernel_rfl) (by kernel_rfl) (by kernel_rfl) (e := Extern.MathFloatBits.float64frombits) (by kernel_rfl)]; rfl

theorem bcell {W w1 : World} (hb : Below W.heap.size W w1) : (∀ b o, b < W.heap.size → w1.cell? ⟨b, o, none⟩ = W.cell? ⟨b, o, none⟩) ∧ (∀ b o, b < W.heap.size → w1.frozen? ⟨b, o, none⟩ = W.frozen? ⟨b, o, none⟩) :=
  ⟨fun b o h => hb.cell (p := ⟨b, o, none⟩) h, fun b o h => hb.frozen (p := ⟨b, o, none⟩) h⟩

def cmpOf (a b : Int) : Int := if a < b then -1 else if b < a then 1 else 0
set_option maxHeartbeats 400000 in
theorem layout64_any (w : World) :
    Calls Tryd.prog 57 #[] w fun e w' => e = .returned (.agg #[.int .i64 52, .int .u64 4503599627370495, .int .u64 2047, .int .u64 9223372036854775808, .int .u64 9218868437227405312, .int .u64 9221120237041090561, .int .i64 1075]) ∧ Below w.heap.size w w' := by
  go_enter Tryd.func57, Tryd.ntmps57
  go_wp2
  exact bodyPost_ret (v := .agg #[.int .i64 52, .int .u64 4503599627370495, .int .u64 2047, .int .u64 9223372036854775808, .int .u64 9218868437227405312, .int .u64 9221120237041090561, .int .i64 1075]) (by simp [results, Tryd.results57, go_sem]) rfl ⟨rfl, (Below.refl _ _).alloc (Nat.le_refl _) _⟩

set_option maxHeartbeats 400000 in
theorem canon_eq (x : Nat) (w : World) (hx : x < 18446744073709551616) :
    Calls Tryd.prog 56 #[.agg #[.int .i64 52, .int .u64 4503599627370495, .int .u64 2047, .int .u64 9223372036854775808, .int .u64 9218868437227405312, .int .u64 9221120237041090561, .int .i64 1075], .int .u64 x] w fun e w' => e = .returned (.int .u64 (canonOf x)) ∧ w' = w.alloc (.cells #[.int .i64 52, .int .u64 4503599627370495, .int .u64 2047, .int .u64 9223372036854775808, .int .u64 9218868437227405312, .int .u64 9221120237041090561, .int .i64 1075] 93) := by
  go_enter Tryd.func56, Tryd.ntmps56
  go_wp2
  · go_ret
    exact ⟨ret_int (canon_w1 hx ‹_›), rfl⟩
  · go_ret
    exact ⟨ret_int (canon_w2 hx ‹_›), rfl⟩
theorem canon_any (x : Nat) (w : World) (hx : x < 18446744073709551616) :
    Calls Tryd.prog 56 #[.agg #[.int .i64 52, .int .u64 4503599627370495, .int .u64 2047, .int .u64 9223372036854775808, .int .u64 9218868437227405312, .int .u64 9221120237041090561, .int .i64 1075], .int .u64 x] w fun e w' => e = .returned (.int .u64 (canonOf x)) ∧ Below w.heap.size w w' :=
  (canon_eq x w hx).mono fun _ _ h => ⟨h.1, by rw [h.2]; exact (Below.refl _ _).alloc (Nat.le_refl _) _⟩
end Go.Proofs.YtpjdmhidhllbkaaDoor

namespace Go.Proofs.YtpjdmhidhllbkaaDoor
open Go.RowKit Go.IntWalk

def sliceLen : Value → Nat
  | .slice _ n _ => n
  | _ => 0
/-- The last of k words isn't 0. -/
def EndOk (L : List Nat) (k : Nat) : Prop := k ≠ 0 → L.getD (k - 1) 0 ≠ 0
/-- The words of a magnitude lie at an address. -/
def MagAt (w : World) (a : Option Addr) (L : List Nat) : Prop := ∀ i, i < L.length → ∃ b off, a = some ⟨b, off, none⟩ ∧ b < w.heap.size ∧ w.cell? ⟨b, off + i, none⟩ = some (.int .u32 (L.getD i 0))
theorem MagAt.take {w : World} {a : Option Addr} {L : List Nat} (h : MagAt w a L) (k : Nat) : MagAt w a (L.take k) := by
  intro i hi
  rw [List.length_take] at hi
  obtain ⟨b, off, e, hb, hc⟩ := h i (by omega)
  refine ⟨b, off, e, hb, ?_⟩
  rw [hc]
  congr 3
  simp [List.getD, show i < k by omega]
/-- The words of a number of 64 bits, and how many there are. -/
def loW (n : Nat) : Nat := n % 4294967296
def hiW (n : Nat) : Nat := n / 4294967296
def numW (n : Nat) : Nat := if hiW n ≠ 0 then 2 else if loW n ≠ 0 then 1 else 0
theorem natL_words (n : Nat) : natL [loW n, hiW n] = n ∧ natL ([loW n, hiW n].take (numW n)) = n := by
  have e : natL [loW n, hiW n] = n := by
    show loW n + 4294967296 * (hiW n + 4294967296 * 0) = n
    unfold loW hiW; omega
  refine ⟨e, ?_⟩
  unfold numW
  by_cases h : hiW n ≠ 0
  · rw [if_pos h]; exact e
  · rw [if_neg h]
    have h0 : hiW n = 0 := by omega
    by_cases h1 : loW n ≠ 0
    · rw [if_pos h1]
      show loW n + 4294967296 * 0 = n
      unfold loW hiW at *; omega
    · rw [if_neg h1]
      show 0 = n
      unfold loW hiW at *; omega
theorem end_unique (L : List Nat) (k j : Nat) (hD : DigL L) (hk : k ≤ L.length) (hj : j ≤ L.length) (e1 : natL (L.take k) = natL L) (e2 : natL (L.take j) = natL L) (o1 : EndOk L k) (o2 : EndOk L j) : k = j := by
  have key : ∀ a b, a ≤ L.length → b ≤ L.length → natL (L.take a) = natL (L.take b) → EndOk L b → ¬ a < b := by
    intro a b ha hb he ho hlt
    obtain ⟨c, hc⟩ : ∃ c, b = c + 1 := ⟨b - 1, by omega⟩
    subst hc
    have h1 := natL_take_succ L c (by omega)
    have hne := ho (by omega)
    rw [Nat.add_sub_cancel] at hne
    have h2 := natL_lt (L.take a) (hD.take a)
    rw [List.length_take, Nat.min_eq_left ha] at h2
    have h3 : 4294967296 ^ a ≤ 4294967296 ^ c := Nat.pow_le_pow_right (by decide) (by omega)
    have h4 : 4294967296 ^ c * 1 ≤ 4294967296 ^ c * L.getD c 0 := Nat.mul_le_mul_left _ (by omega)
    omega
  have a1 := key k j hk hj (e1.trans e2.symm) o2
  have a2 := key j k hj hk (e2.trans e1.symm) o1
  omega
theorem words_dig (n : Nat) (hn : n < 18446744073709551616) : DigL [loW n, hiW n] := by
  intro d hd
  simp at hd
  unfold loW hiW at hd
  omega
theorem words_end (n : Nat) : EndOk [loW n, hiW n] (numW n) := by
  intro h
  unfold numW at h ⊢
  by_cases c : hiW n ≠ 0
  · rw [if_pos c]; exact c
  · rw [if_neg c] at h ⊢
    by_cases c1 : loW n ≠ 0
    · rw [if_pos c1]; exact c1
    · rw [if_neg c1] at h; omega
/-- All blocks that were there are as they were, but for one. -/
structure But (z : Nat) (w w' : World) : Prop where
  os : w'.os = w.os
  tape : w'.tape = w.tape
  output : w'.output = w.output
  size : w.heap.size ≤ w'.heap.size
  block : ∀ k, k < w.heap.size → k ≠ z → w'.heap[k]? = w.heap[k]?
theorem But.refl (z : Nat) (w : World) : But z w w := ⟨rfl, rfl, rfl, Nat.le_refl _, fun _ _ _ => rfl⟩
theorem But.trans {z : Nat} {a b c : World} (h : But z a b) (k : But z b c) : But z a c :=
  ⟨k.os.trans h.os, k.tape.trans h.tape, k.output.trans h.output, Nat.le_trans h.size k.size, fun i hi hz => (k.block i (Nat.lt_of_lt_of_le hi h.size) hz).trans (h.block i hi hz)⟩
theorem But.of_below {z : Nat} {w w' : World} (h : Below w.heap.size w w') : But z w w' := ⟨h.os, h.tape, h.output, h.size, fun k hk _ => h.block k hk⟩
theorem But.below {z B : Nat} {w w' : World} (h : But z w w') (hB : B ≤ w.heap.size) (hz : B ≤ z) : Below B w w' := ⟨h.os, h.tape, h.output, h.size, fun k hk => h.block k (by omega) (by omega)⟩
theorem But.setCell {z : Nat} {w w1 : World} (h : But z w w1) (o : Nat) (v : Value) : But z w (w1.setCell ⟨z, o, none⟩ v) :=
  h.trans ⟨rfl, rfl, rfl, by simp [World.setCell], fun k _ hz => Below.heap_setCell _ _ _ _ hz⟩
theorem int_cells {w : World} {z : Nat} {v0 v1 : Value} {T : TypeId} (h : w.heap[z]? = some (.cells #[v0, v1] T)) : w.cell? ⟨z, 0, none⟩ = some v0 ∧ w.cell? ⟨z, 1, none⟩ = some v1 ∧ (∀ o, w.frozen? ⟨z, o, none⟩ = false) ∧ z < w.heap.size := by
  refine ⟨by simp [World.cell?, h], by simp [World.cell?, h], fun o => by simp [World.frozen?, h], ?_⟩
  exact (Array.getElem?_eq_some_iff.1 h).1
theorem mag_ne {w : World} {z : Nat} {neg : Bool} {a a' : Option Addr} {n cap : Nat} {T : TypeId} {L : List Nat} (h : w.heap[z]? = some (.cells #[.bool neg, .slice a' n cap] T)) (hm : MagAt w a L) (h0 : L.length ≠ 0) : ∃ b off, a = some ⟨b, off, none⟩ ∧ b ≠ z := by
  obtain ⟨b, off, e, _, hc⟩ := hm 0 (by omega)
  refine ⟨b, off, e, fun hbz => ?_⟩
  subst hbz
  rcases off with _ | _ | off
  · simp [World.cell?, h] at hc
  · simp [World.cell?, h] at hc
  · simp [World.cell?, h] at hc
theorem MagAt.but {w w' : World} {z : Nat} {a : Option Addr} {L : List Nat} (h : MagAt w a L) (hb : But z w w') (hz : ∀ b off, a = some ⟨b, off, none⟩ → L.length ≠ 0 → b ≠ z) : MagAt w' a L := by
  intro i hi
  obtain ⟨b, off, e, hlt, hc⟩ := h i hi
  refine ⟨b, off, e, Nat.lt_of_lt_of_le hlt hb.size, ?_⟩
  rw [← hc]
  exact World.cell?_of_block (hb.block b hlt (hz b off e (by omega)))
theorem can_take (L : List Nat) (k : Nat) (hk : k ≤ L.length) (h : EndOk L k) : CanL (L.take k) ∧ (L.take k).length = k := by
  have hl : (L.take k).length = k := by rw [List.length_take]; omega
  refine ⟨fun h0 => ?_, hl⟩
  have hk0 : k ≠ 0 := by
    intro c
    rw [c] at h0
    exact h0 rfl
  rw [hl]
  have := h hk0
  simpa [List.getD, show k - 1 < k by omega] using this
end Go.Proofs.YtpjdmhidhllbkaaDoor

namespace Go.Proofs.YtpjdmhidhllbkaaDoor
open Go.RowKit Go.IntWalk

theorem len_zero_iff (L : List Nat) (hc : CanL L) : L.length = 0 ↔ natL L = 0 := by rw [natL_zero L hc, List.length_eq_zero_iff]
theorem natL_two (L : List Nat) (hL : L.length ≤ 2) : natL L = L.getD 0 0 + 4294967296 * L.getD 1 0 := by
  match L, hL with
  | [], _ => rfl
  | [d], _ => show d + 4294967296 * 0 = d + 4294967296 * 0; rfl
  | [d, e], _ => show d + 4294967296 * (e + 4294967296 * 0) = d + 4294967296 * e; omega
  | _ :: _ :: _ :: _, h => simp at h
theorem or_words (d e : Nat) (hd : d < 4294967296) (he : e < 4294967296) : bits .or .u64 (d : Int) (IntKind.u64.wrap ((e : Int) * 4294967296)) = ((d + 4294967296 * e : Nat) : Int) := by
  have hw : IntKind.u64.wrap ((e : Int) * 4294967296) = ((4294967296 * e : Nat) : Int) := by rw [IntKind.wrap_u64]; omega
  rw [hw, u64_or_nat d (4294967296 * e) (by omega) (by omega)]
  congr 1
  rw [Nat.or_comm, Nat.add_comm]
  have := Nat.two_pow_add_eq_or_of_lt (i := 32) (b := d) (by simpa using hd) e
  simp only [Nat.reducePow] at this
  omega
end Go.Proofs.YtpjdmhidhllbkaaDoor

namespace Go.Proofs.YtpjdmhidhllbkaaDoor
open Go.RowKit Go.IntWalk

/-- R at a normal end, and no other end. -/
def AtEnd (R : Act → World → Prop) : Exit → Act → World → Prop
  | .normal, a, w => R a w
  | _, _, _ => False
theorem region_merge {P : Program} {id : Nat} {ops : Array Oper} {b : Bool} {Q : Exit → Act → World → Prop} {a : Act} {w : World} (R : Act → Act → World → Prop) (h : (Code.region id ops b).wp P (AtEnd (R a)) a w) (hR : ∀ a' w', R a a' w' → Q .normal a' w') : (Code.region id ops b).wp P Q a w := by
  refine Code.wp_mono (fun e a' w' hh => ?_) h
  cases e <;> first | exact hR _ _ hh | exact (hh : False).elim
/-- What follows told by a relation, hidden from the walk. -/
theorem region_merge2 {P : Program} {id : Nat} {ops : Array Oper} {b : Bool} {Q : Exit → Act → World → Prop} {a : Act} {w : World} (R : Act → Act → World → Prop) (h : Hid (∀ a' w', R a a' w' → Q .normal a' w') → (Code.region id ops b).wp P Q a w) (hR : ∀ a' w', R a a' w' → Q .normal a' w') : (Code.region id ops b).wp P Q a w := h hR
/-- All blocks of W are in W' as they were. -/
def KeepH (W W' : World) : Prop := W.heap.size ≤ W'.heap.size ∧ ∀ (n : Nat) (o : Obj), W.heap[n]? = some o → W'.heap[n]? = some o
theorem Below.keepH {W W' : World} (h : Below W.heap.size W W') : KeepH W W' := ⟨h.size, fun _ _ hn => (h.block _ (Array.getElem?_eq_some_iff.1 hn).1).trans hn⟩
theorem keepH {W W' : World} (h : KeepH W W') {n : Nat} {o : Obj} (hn : W.heap[n]? = some o) : W'.heap[n]? = some o := h.2 n o hn
theorem new_al {W : World} {o : Obj} {n : Nat} (h : n = W.heap.size) : (W.alloc o).heap[n]? = some o := by rw [h]; exact Array.getElem?_push_size
theorem keep_al {W : World} {o o' : Obj} {n : Nat} (h : W.heap[n]? = some o) : (W.alloc o').heap[n]? = some o := keepH (Below.keepH ((Below.refl W.heap.size W).alloc (Nat.le_refl _) o')) h
theorem keep_dr {W : World} {o : Obj} {n : Nat} (h : W.heap[n]? = some o) : W.drew.heap[n]? = some o := keepH (Below.keepH (Below.refl W.heap.size W).drew) h
theorem ne_blk {W : World} {o : Obj} {n m : Nat} (h : W.heap[n]? = some o) (hm : m = W.heap.size) : n ≠ m := by
  have := (Array.getElem?_eq_some_iff.1 h).1
  omega
/-- A take by hand, its place told. -/
theorem take_at {P : Program} {md : Region.Mode} {ops : Array Oper} {Q : Exit → Act → World → Prop} {S : World → Prop} (i d : Nat) (v : Value) {oi : Oper} {fuel : Nat} {listed : Array Bool} {a : Act} {w : World} (hi : ops[i]? = some oi) (hd : oi.dst = some d)
    (hs : Region.noSelect ops = true) (hf : Region.free md ops listed i = true) (hr : (Region.ready md ops listed).contains i = true)
    (hQ : ∀ c a w, Q (.panic c) (a.put (some d) v) w → Q (.panic c) a w) (hy : YieldsIf P ops S oi v a) (hS : S w)
    (h : wpAnyH P md ops Q S fuel (listed.setIfInBounds i true) (a.put (some d) v) w) : wpAnyH P md ops Q S (fuel + 1) listed a w :=
  wpAnyH_take hi hs hf hr (by rw [hd]; exact hQ) hy hS (by rw [hd]; exact h)
end Go.Proofs.YtpjdmhidhllbkaaDoor
