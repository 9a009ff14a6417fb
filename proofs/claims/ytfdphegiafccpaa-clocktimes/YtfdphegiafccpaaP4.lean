
/- What the document's whole numbers do: cut, words, put. -/
import Derived.Test.YtfdphegiafccpaaP2
import Derived.Test.YtfdphegiafccpaaP3
namespace Go.Proofs.Ytfdphegiafccpaa
open Go.RowKit Go.IntWalk

def sliceLen : Value → Nat
  | .slice _ n _ => n
  | _ => 0
/-- The last of k words isn't 0. -/
def EndOk (L : List Nat) (k : Nat) : Prop := k ≠ 0 → L.getD (k - 1) 0 ≠ 0
set_option maxHeartbeats 1000000 in
theorem bcut_some (L : List Nat) (b off cap : Nat) (w : World) (hcell : ∀ i, i < L.length → w.cell? ⟨b, off + i, none⟩ = some (.int .u32 (L.getD i 0))) (hcap : L.length ≤ cap) (hn : L.length ≤ 1099511627776) :
    Calls Try.prog 47 #[.slice (some ⟨b, off, none⟩) L.length cap] w fun r w' => (∃ k, k ≤ L.length ∧ r = .returned (.slice (some ⟨b, off, none⟩) k cap) ∧ natL (L.take k) = natL L ∧ EndOk L k) ∧ w' = w := by
  have HC := hid hcell
  have hL := hid (show natL (L.take L.length) = natL L by rw [List.take_length])
  obtain ⟨n, hnl⟩ : ∃ n, Hid (L.length = n) := ⟨_, rfl⟩
  rw [hnl.out] at hn hcap hL ⊢
  clear hcell
  go_enter Try.func47, Try.ntmps47
  go_wp2
  go_loop [0] (fun v => ∃ k : Nat, k ≤ n ∧ v = .slice (some ⟨b, off, none⟩) k cap ∧ Hid (natL (L.take k) = natL L)) (fun v => sliceLen v)
  case atStart => exact ⟨n, Nat.le_refl _, rfl, hL⟩
  case round =>
    obtain ⟨k, hkn, rfl, HA⟩ := hrel
    by_cases hk0 : k = 0
    · subst hk0
      go_wp2
      go_ret
      exact ⟨⟨0, Nat.zero_le _, rfl, HA.out, fun h => absurd rfl h⟩, rfl⟩
    · obtain ⟨j, hj⟩ : ∃ j, k = j + 1 := ⟨k - 1, by omega⟩
      subst hj
      have hck := HC.out j (by rw [hnl.out]; omega)
      have HZ := hid (natL_take_zero L j (by rw [hnl.out]; omega))
      obtain ⟨d, hd⟩ : ∃ d, Hid (L.getD j 0 = d) := ⟨_, rfl⟩
      rw [hd.out] at hck HZ
      have hcast : (((j + 1 : Nat) : Int) - 1) = (j : Int) := by omega
      have hcapj : j + 1 ≤ cap := by omega
      by_cases hd0 : d = 0
      · subst hd0
        go_wp2
        exact ⟨⟨j, by omega, rfl, (HZ.out rfl).symm.trans HA.out⟩, by simp [sliceLen]⟩
      · have hdb : ((d : Int) == 0) = false := by simpa using hd0
        have HD := hid hd0
        clear hd0
        go_wp2
        go_ret
        exact ⟨⟨j + 1, hkn, rfl, HA.out, fun _ => by rw [Nat.add_sub_cancel, hd.out]; exact HD.out⟩, rfl⟩
set_option maxHeartbeats 400000 in
theorem bcut_none (cap : Nat) (a : Option Addr) (w : World) :
    Calls Try.prog 47 #[.slice a 0 cap] w fun r w' => r = .returned (.slice a 0 cap) ∧ w' = w := by
  go_enter Try.func47, Try.ntmps47
  go_wp2
  refine wp_loop_rounds 1 ?_
  rw [rounds_succ]
  go_wp2
  go_ret
  exact ⟨rfl, rfl⟩
/-- The words of a magnitude lie at an address. -/
def MagAt (w : World) (a : Option Addr) (L : List Nat) : Prop := ∀ i, i < L.length → ∃ b off, a = some ⟨b, off, none⟩ ∧ b < w.heap.size ∧ w.cell? ⟨b, off + i, none⟩ = some (.int .u32 (L.getD i 0))
theorem MagAt.take {w : World} {a : Option Addr} {L : List Nat} (h : MagAt w a L) (k : Nat) : MagAt w a (L.take k) := by
  intro i hi
  rw [List.length_take] at hi
  obtain ⟨b, off, e, hb, hc⟩ := h i (by omega)
  refine ⟨b, off, e, hb, ?_⟩
  rw [hc]
  congr 3
  simp [List.getD, show i < k by omega]
theorem bcut_any (L : List Nat) (a : Option Addr) (cap : Nat) (w : World) (h : MagAt w a L) (hcap : L.length ≤ cap) (hn : L.length ≤ 1099511627776) :
    Calls Try.prog 47 #[.slice a L.length cap] w fun r w' => (∃ k, k ≤ L.length ∧ r = .returned (.slice a k cap) ∧ natL (L.take k) = natL L ∧ EndOk L k) ∧ w' = w := by
  by_cases h0 : L.length = 0
  · have hl : L = [] := List.length_eq_zero_iff.1 h0
    rw [h0]
    refine (bcut_none cap a w).mono ?_
    rintro r w' ⟨rfl, rfl⟩
    exact ⟨⟨0, Nat.le_refl _, rfl, by rw [hl]; rfl, fun c => absurd rfl c⟩, rfl⟩
  · obtain ⟨b, off, rfl, hb, _⟩ := h 0 (by omega)
    refine bcut_some L b off cap w (fun i hi => ?_) hcap hn
    obtain ⟨b', off', e, _, hc⟩ := h i hi
    cases e
    exact hc
set_option maxHeartbeats 400000 in
theorem put_core (z k : Nat) (neg : Bool) (a : Option Addr) (n cap : Nat) (w : World) (v0 v1 : Value) (h0 : w.cell? ⟨z, 0, none⟩ = some v0) (h1 : w.cell? ⟨z, 1, none⟩ = some v1) (hf : ∀ o, w.frozen? ⟨z, o, none⟩ = false)
    (hc : Calls Try.prog 47 #[.slice a n cap] w fun r w' => r = .returned (.slice a k cap) ∧ w' = w) :
    Calls Try.prog 37 #[.pointer (some ⟨z, 0, none⟩), .bool neg, .slice a n cap] w fun r w' => r = .returned (.pointer (some ⟨z, 0, none⟩)) ∧ w' = (w.setCell ⟨z, 1, none⟩ (.slice a k cap)).setCell ⟨z, 0, none⟩ (.bool (neg && decide (0 < k))) := by
  have HC := hid hc
  clear hc
  cases neg
  all_goals
    go_enter Try.func37, Try.ntmps37
    go_wp2_with fail
    refine HC.out.mono ?_
    rintro r w1 ⟨rfl, rfl⟩
    go_wp2
    go_ret
    exact ⟨rfl, rfl⟩
/-- The words of a number of 64 bits, and how many there are. -/
def loW (n : Nat) : Nat := n % 4294967296
def hiW (n : Nat) : Nat := n / 4294967296
def numW (n : Nat) : Nat := if hiW n ≠ 0 then 2 else if loW n ≠ 0 then 1 else 0
theorem natL_words (n : Nat) : natL [loW n, hiW n] = n ∧ natL ([loW n, hiW n].take (numW n)) = n := by
  have e : natL [loW n, hiW n] = n := by
    show loW n + 4294967296 * (hiW n + 4294967296 * 0) = n
    unfold loW hiW; omega
  refine ⟨e, ?_⟩
  unfold numW
  by_cases h : hiW n ≠ 0
  · rw [if_pos h]; exact e
  · rw [if_neg h]
    have h0 : hiW n = 0 := by omega
    by_cases h1 : loW n ≠ 0
    · rw [if_pos h1]
      show loW n + 4294967296 * 0 = n
      unfold loW hiW at *; omega
    · rw [if_neg h1]
      show 0 = n
      unfold loW hiW at *; omega
theorem end_unique (L : List Nat) (k j : Nat) (hD : DigL L) (hk : k ≤ L.length) (hj : j ≤ L.length) (e1 : natL (L.take k) = natL L) (e2 : natL (L.take j) = natL L) (o1 : EndOk L k) (o2 : EndOk L j) : k = j := by
  have key : ∀ a b, a ≤ L.length → b ≤ L.length → natL (L.take a) = natL (L.take b) → EndOk L b → ¬ a < b := by
    intro a b ha hb he ho hlt
    obtain ⟨c, hc⟩ : ∃ c, b = c + 1 := ⟨b - 1, by omega⟩
    subst hc
    have h1 := natL_take_succ L c (by omega)
    have hne := ho (by omega)
    rw [Nat.add_sub_cancel] at hne
    have h2 := natL_lt (L.take a) (hD.take a)
    rw [List.length_take, Nat.min_eq_left ha] at h2
    have h3 : 4294967296 ^ a ≤ 4294967296 ^ c := Nat.pow_le_pow_right (by decide) (by omega)
    have h4 : 4294967296 ^ c * 1 ≤ 4294967296 ^ c * L.getD c 0 := Nat.mul_le_mul_left _ (by omega)
    omega
  have a1 := key k j hk hj (e1.trans e2.symm) o2
  have a2 := key j k hj hk (e2.trans e1.symm) o1
  omega
theorem words_dig (n : Nat) (hn : n < 18446744073709551616) : DigL [loW n, hiW n] := by
  intro d hd
  simp at hd
  unfold loW hiW at hd
  omega
theorem words_end (n : Nat) : EndOk [loW n, hiW n] (numW n) := by
  intro h
  unfold numW at h ⊢
  by_cases c : hiW n ≠ 0
  · rw [if_pos c]; exact c
  · rw [if_neg c] at h ⊢
    by_cases c1 : loW n ≠ 0
    · rw [if_pos c1]; exact c1
    · rw [if_neg c1] at h; omega
/-- cut of the two words of a number. -/
theorem cut_words (n b : Nat) (w : World) (hn : n < 18446744073709551616) (h0 : w.cell? ⟨b, 0, none⟩ = some (.int .u32 (loW n))) (h1 : w.cell? ⟨b, 1, none⟩ = some (.int .u32 (hiW n))) :
    Calls Try.prog 47 #[.slice (some ⟨b, 0, none⟩) 2 2] w fun r w' => r = .returned (.slice (some ⟨b, 0, none⟩) (numW n) 2) ∧ w' = w := by
  refine (bcut_some [loW n, hiW n] b 0 2 w (fun i hi => ?_) (Nat.le_refl 2) (show 2 ≤ 1099511627776 by decide)).mono ?_
  · rcases (show i = 0 ∨ i = 1 by simp at hi; omega) with rfl | rfl
    · exact h0
    · exact h1
  · rintro r w' ⟨⟨k, hk, rfl, hv, he⟩, rfl⟩
    have : k = numW n := end_unique _ k (numW n) (words_dig n hn) hk (by unfold numW; split <;> (try split) <;> simp) hv ((natL_words n).2.trans (natL_words n).1.symm) he (words_end n)
    exact ⟨by rw [this], rfl⟩
set_option maxHeartbeats 400000 in
theorem words_any (n : Nat) (w : World) (hn : n < 18446744073709551616) :
    Calls Try.prog 48 #[.int .u64 n] w fun r w' => r = .returned (.slice (some ⟨w.heap.size, 0, none⟩) (numW n) 2) ∧ ∃ T, w' = w.alloc (.cells #[.int .u32 (loW n), .int .u32 (hiW n)] T) := by
  have hlo : IntKind.u32.wrap (n : Int) = (loW n : Int) := by unfold loW; rw [IntKind.wrap_u32]; omega
  have hhi : IntKind.u32.wrap ((n : Int) / 4294967296) = (hiW n : Int) := by unfold hiW; rw [IntKind.wrap_u32]; omega
  have HC := hid (fun (w : World) b h0 h1 => cut_words n b w hn h0 h1)
  obtain ⟨l, hl⟩ : ∃ l, Hid (loW n = l) := ⟨_, rfl⟩
  obtain ⟨h, hh⟩ : ∃ h, Hid (hiW n = h) := ⟨_, rfl⟩
  rw [hl.out] at hlo HC ⊢
  rw [hh.out] at hhi HC ⊢
  clear hn
  go_enter Try.func48, Try.ntmps48
  go_wp2_with fail
  refine (HC.out _ w.heap.size (by simp [go_sem]) (by simp [go_sem])).mono ?_
  rintro r w1 ⟨rfl, rfl⟩
  go_wp2
  go_ret
  exact ⟨rfl, _, rfl⟩

/-- All blocks that were there are as they were, but for one. -/
structure But (z : Nat) (w w' : World) : Prop where
  os : w'.os = w.os
  tape : w'.tape = w.tape
  output : w'.output = w.output
  size : w.heap.size ≤ w'.heap.size
  block : ∀ k, k < w.heap.size → k ≠ z → w'.heap[k]? = w.heap[k]?
theorem But.refl (z : Nat) (w : World) : But z w w := ⟨rfl, rfl, rfl, Nat.le_refl _, fun _ _ _ => rfl⟩
theorem But.trans {z : Nat} {a b c : World} (h : But z a b) (k : But z b c) : But z a c :=
  ⟨k.os.trans h.os, k.tape.trans h.tape, k.output.trans h.output, Nat.le_trans h.size k.size, fun i hi hz => (k.block i (Nat.lt_of_lt_of_le hi h.size) hz).trans (h.block i hi hz)⟩
theorem But.of_below {z : Nat} {w w' : World} (h : Below w.heap.size w w') : But z w w' := ⟨h.os, h.tape, h.output, h.size, fun k hk _ => h.block k hk⟩
theorem But.below {z B : Nat} {w w' : World} (h : But z w w') (hB : B ≤ w.heap.size) (hz : B ≤ z) : Below B w w' := ⟨h.os, h.tape, h.output, h.size, fun k hk => h.block k (by omega) (by omega)⟩
theorem But.setCell {z : Nat} {w w1 : World} (h : But z w w1) (o : Nat) (v : Value) : But z w (w1.setCell ⟨z, o, none⟩ v) :=
  h.trans ⟨rfl, rfl, rfl, by simp [World.setCell], fun k _ hz => Below.heap_setCell _ _ _ _ hz⟩
/-- A whole number of the document lies at a block. -/
def BigAt (w : World) (x : Nat) (neg : Bool) (L : List Nat) : Prop :=
  ∃ a cap, w.heap[x]? = some (.cells #[.bool neg, .slice a L.length cap] 53) ∧ L.length ≤ cap ∧ MagAt w a L ∧ DigL L ∧ CanL L ∧ (L = [] → neg = false)
theorem int_cells {w : World} {z : Nat} {v0 v1 : Value} {T : TypeId} (h : w.heap[z]? = some (.cells #[v0, v1] T)) : w.cell? ⟨z, 0, none⟩ = some v0 ∧ w.cell? ⟨z, 1, none⟩ = some v1 ∧ (∀ o, w.frozen? ⟨z, o, none⟩ = false) ∧ z < w.heap.size := by
  refine ⟨by simp [World.cell?, h], by simp [World.cell?, h], fun o => by simp [World.frozen?, h], ?_⟩
  exact (Array.getElem?_eq_some_iff.1 h).1
theorem mag_ne {w : World} {z : Nat} {neg : Bool} {a a' : Option Addr} {n cap : Nat} {T : TypeId} {L : List Nat} (h : w.heap[z]? = some (.cells #[.bool neg, .slice a' n cap] T)) (hm : MagAt w a L) (h0 : L.length ≠ 0) : ∃ b off, a = some ⟨b, off, none⟩ ∧ b ≠ z := by
  obtain ⟨b, off, e, _, hc⟩ := hm 0 (by omega)
  refine ⟨b, off, e, fun hbz => ?_⟩
  subst hbz
  rcases off with _ | _ | off
  · simp [World.cell?, h] at hc
  · simp [World.cell?, h] at hc
  · simp [World.cell?, h] at hc
theorem MagAt.but {w w' : World} {z : Nat} {a : Option Addr} {L : List Nat} (h : MagAt w a L) (hb : But z w w') (hz : ∀ b off, a = some ⟨b, off, none⟩ → L.length ≠ 0 → b ≠ z) : MagAt w' a L := by
  intro i hi
  obtain ⟨b, off, e, hlt, hc⟩ := h i hi
  refine ⟨b, off, e, Nat.lt_of_lt_of_le hlt hb.size, ?_⟩
  rw [← hc]
  exact World.cell?_of_block (hb.block b hlt (hz b off e (by omega)))
/-- What is another number's stays it. -/
theorem BigAt.but {w w' : World} {z x : Nat} {neg : Bool} {L : List Nat} {neg' : Bool} {a' : Option Addr} {n' cap' : Nat} {T : TypeId} (h : BigAt w x neg L) (hb : But z w w') (hx : x ≠ z) (hzo : w.heap[z]? = some (.cells #[.bool neg', .slice a' n' cap'] T)) : BigAt w' x neg L := by
  obtain ⟨a, cap, ho, hcap, hm, hd, hc, hn⟩ := h
  refine ⟨a, cap, ?_, hcap, hm.but hb (fun b off e h0 => ?_), hd, hc, hn⟩
  · rw [hb.block x (int_cells ho).2.2.2 hx]; exact ho
  · obtain ⟨b', off', e', hne⟩ := mag_ne hzo hm h0
    rw [e] at e'
    cases e'
    exact hne
theorem can_take (L : List Nat) (k : Nat) (hk : k ≤ L.length) (h : EndOk L k) : CanL (L.take k) ∧ (L.take k).length = k := by
  have hl : (L.take k).length = k := by rw [List.length_take]; omega
  refine ⟨fun h0 => ?_, hl⟩
  have hk0 : k ≠ 0 := by
    intro c
    rw [c] at h0
    exact h0 rfl
  rw [hl]
  have := h hk0
  simpa [List.getD, show k - 1 < k by omega] using this
theorem put_any (z : Nat) (neg neg0 : Bool) (a a0 : Option Addr) (n0 cap cap0 : Nat) (L : List Nat) (w : World) (hz : w.heap[z]? = some (.cells #[.bool neg0, .slice a0 n0 cap0] 53)) (hm : MagAt w a L) (hD : DigL L) (hcap : L.length ≤ cap) (hn : L.length ≤ 1099511627776) :
    Calls Try.prog 37 #[.pointer (some ⟨z, 0, none⟩), .bool neg, .slice a L.length cap] w fun r w' => r = .returned (.pointer (some ⟨z, 0, none⟩)) ∧ ∃ L', natL L' = natL L ∧ L'.length ≤ L.length ∧ BigAt w' z (neg && decide (natL L ≠ 0)) L' ∧ But z w w' := by
  obtain ⟨c0, c1, hf, hlt⟩ := int_cells hz
  -- how many words are left is a number of the list's own
  obtain ⟨k, hk, hv, he⟩ : ∃ k, k ≤ L.length ∧ natL (L.take k) = natL L ∧ EndOk L k := by
    have : ∀ j, j ≤ L.length → natL (L.take j) = natL L → ∃ k, k ≤ L.length ∧ natL (L.take k) = natL L ∧ EndOk L k := by
      intro j
      induction j with
      | zero => exact fun h1 h2 => ⟨0, h1, h2, fun c => absurd rfl c⟩
      | succ j ih =>
        intro h1 h2
        by_cases hd : L.getD j 0 = 0
        · exact ih (by omega) ((natL_take_zero L j (by omega) hd).symm.trans h2)
        · exact ⟨j + 1, h1, h2, fun _ => hd⟩
    exact this L.length (Nat.le_refl _) (by rw [List.take_length])
  have hcut : Calls Try.prog 47 #[.slice a L.length cap] w fun r w' => r = .returned (.slice a k cap) ∧ w' = w := by
    refine (bcut_any L a cap w hm hcap hn).mono ?_
    rintro r w' ⟨⟨k', hk', rfl, hv', he'⟩, rfl⟩
    exact ⟨by rw [end_unique L k' k hD hk' hk hv' hv he' he], rfl⟩
  obtain ⟨hcan, hlen⟩ := can_take L k hk he
  refine (put_core z k neg a L.length cap w _ _ c0 c1 hf hcut).mono ?_
  rintro r w' ⟨rfl, rfl⟩
  have hbut : But z w ((w.setCell ⟨z, 1, none⟩ (.slice a k cap)).setCell ⟨z, 0, none⟩ (.bool (neg && decide (0 < k)))) := ((But.refl z w).setCell 1 _).setCell 0 _
  refine ⟨rfl, L.take k, hv, by rw [hlen]; exact hk, ⟨a, cap, ?_, by rw [hlen]; omega, (hm.take k).but hbut (fun b off e h0 => ?_), hD.take k, hcan, fun h0 => ?_⟩, hbut⟩
  · have hbo : (neg && decide (natL L ≠ 0)) = (neg && decide (0 < k)) := by
      congr 1
      rw [decide_eq_decide, ← hv]
      rw [Ne, natL_zero _ hcan, ← List.length_eq_zero_iff, hlen]
      omega
    rw [hlen, hbo]
    simp [World.setCell, Array.getElem?_modify, hz]
  · obtain ⟨b', off', e', hne⟩ := mag_ne hz (hm.take k) h0
    rw [e] at e'
    cases e'
    exact hne
  · have : natL L = 0 := by rw [← hv, h0]; rfl
    rw [this]
    simp
end Go.Proofs.Ytfdphegiafccpaa
