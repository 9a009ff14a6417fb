
/- What dyad's trimmed and word do, and math/bits' sums of words. -/
import Derived.Test.YtphdinjmkhefmaaGreatDoorP19
import Derived.Test.YtphdinjmkhefmaaGreatDoorP14
import Derived.Test.YtphdinjmkhefmaaGreatDoorP15
import Derived.Test.YtphdinjmkhefmaaGreatDoorP16
import Derived.Deep.QuietTactic
import Derived.BigQuiet
namespace Go.Proofs.YtphdinjmkhefmaaGreatDoor
open Go.RowKit Go.IntWalk

set_option maxHeartbeats 1000000 in
theorem trim_some (L : List Nat) (b off cap : Nat) (w : World) (hcell : ∀ i, i < L.length → w.cell? ⟨b, off + i, none⟩ = some (.int .u32 (L.getD i 0))) (hcap : L.length ≤ cap) (hn : L.length ≤ 1099511627776) :
    Calls Tryz.prog 30 #[.slice (some ⟨b, off, none⟩) L.length cap] w fun r w' => (∃ k, k ≤ L.length ∧ r = .returned (.slice (some ⟨b, off, none⟩) k cap) ∧ natL (L.take k) = natL L ∧ EndOk L k) ∧ w' = w := by
  have HC := hid hcell
  have hL := hid (show natL (L.take L.length) = natL L by rw [List.take_length])
  obtain ⟨n, hnl⟩ : ∃ n, Hid (L.length = n) := ⟨_, rfl⟩
  rw [hnl.out] at hn hcap hL ⊢
  clear hcell
  go_enter Tryz.func30, Tryz.ntmps30
  go_wp2
  go_loop [3] (fun v => ∃ k : Nat, k ≤ n ∧ v = .int .i64 k ∧ Hid (natL (L.take k) = natL L)) (fun v => (intOf v).toNat)
  case atStart => exact ⟨n, Nat.le_refl _, rfl, hL⟩
  case round =>
    obtain ⟨k, hkn, rfl, HA⟩ := hrel
    by_cases hk0 : k = 0
    · subst hk0
      go_wp2
      go_ret
      exact ⟨⟨0, Nat.zero_le _, rfl, HA.out, fun h => absurd rfl h⟩, rfl⟩
    · obtain ⟨j, hj⟩ : ∃ j, k = j + 1 := ⟨k - 1, by omega⟩
      subst hj
      have hck := HC.out j (by rw [hnl.out]; omega)
      have HZ := hid (natL_take_zero L j (by rw [hnl.out]; omega))
      obtain ⟨d, hd⟩ : ∃ d, Hid (L.getD j 0 = d) := ⟨_, rfl⟩
      rw [hd.out] at hck HZ
      have hcast : (((j + 1 : Nat) : Int) - 1) = (j : Int) := by omega
      have hcapj : j + 1 ≤ cap := by omega
      have hpos : ((j + 1 : Nat) : Int) > 0 := by omega
      by_cases hd0 : d = 0
      · subst hd0
        go_wp2
        exact ⟨⟨j, by omega, by go_num, (HZ.out rfl).symm.trans HA.out⟩, by simp [intOf]⟩
      · have hdb : ((d : Int) == 0) = false := by simpa using hd0
        have HD := hid hd0
        clear hd0
        go_wp2
        go_ret
        exact ⟨⟨j + 1, hkn, rfl, HA.out, fun _ => by rw [Nat.add_sub_cancel, hd.out]; exact HD.out⟩, rfl⟩
set_option maxHeartbeats 400000 in
theorem trim_none (cap : Nat) (a : Option Addr) (w : World) :
    Calls Tryz.prog 30 #[.slice a 0 cap] w fun r w' => r = .returned (.slice a 0 cap) ∧ w' = w := by
  go_enter Tryz.func30, Tryz.ntmps30
  go_wp2
  refine wp_loop_rounds 1 ?_
  rw [rounds_succ]
  go_wp2
  go_ret
  exact ⟨rfl, rfl⟩
theorem trim_any (L : List Nat) (a : Option Addr) (cap : Nat) (w : World) (h : MagAt w a L) (hcap : L.length ≤ cap) (hn : L.length ≤ 1099511627776) :
    Calls Tryz.prog 30 #[.slice a L.length cap] w fun r w' => (∃ k, k ≤ L.length ∧ r = .returned (.slice a k cap) ∧ natL (L.take k) = natL L ∧ EndOk L k) ∧ w' = w := by
  by_cases h0 : L.length = 0
  · have hl : L = [] := List.length_eq_zero_iff.1 h0
    rw [h0]
    refine (trim_none cap a w).mono ?_
    rintro r w' ⟨rfl, rfl⟩
    exact ⟨⟨0, Nat.le_refl _, rfl, by rw [hl]; rfl, fun c => absurd rfl c⟩, rfl⟩
  · obtain ⟨b, off, rfl, hb, _⟩ := h 0 (by omega)
    refine trim_some L b off cap w (fun i hi => ?_) hcap hn
    obtain ⟨b', off', e, _, hc⟩ := h i hi
    cases e
    exact hc
set_option maxHeartbeats 400000 in
theorem word_any (L : List Nat) (a : Option Addr) (cap i : Nat) (w : World) (h : MagAt w a L) :
    Calls Tryz.prog 60 #[.slice a L.length cap, .int .i64 i] w fun r w' => r = .returned (.int .u32 (L.getD i 0)) ∧ w' = w := by
  by_cases hi : i < L.length
  · obtain ⟨b, off, rfl, hb, hc⟩ := h i hi
    obtain ⟨d, hd⟩ : ∃ d, Hid (L.getD i 0 = d) := ⟨_, rfl⟩
    rw [hd.out] at hc ⊢
    obtain ⟨n, hnl⟩ : ∃ n, Hid (L.length = n) := ⟨_, rfl⟩
    rw [hnl.out] at hi ⊢
    have hii : (i : Int) < (n : Int) := by omega
    clear h hb
    go_enter Tryz.func60, Tryz.ntmps60
    go_wp2
    go_ret
    exact ⟨rfl, rfl⟩
  · have hd : L.getD i 0 = 0 := by simp [List.getD, hi]
    rw [hd]
    obtain ⟨n, hnl⟩ : ∃ n, Hid (L.length = n) := ⟨_, rfl⟩
    rw [hnl.out] at hi ⊢
    have hii : ¬ (i : Int) < (n : Int) := by omega
    clear h
    go_enter Tryz.func60, Tryz.ntmps60
    go_wp2
    go_ret
    exact ⟨rfl, rfl⟩
theorem ret_uu {a b a' b' : Int} (h1 : a = a') (h2 : b = b') : Ending.returned (.tuple #[.int .u32 a, .int .u32 b]) = .returned (.tuple #[.int .u32 a', .int .u32 b']) := by rw [h1, h2]
set_option maxHeartbeats 400000 in
theorem add32_any (x y c : Nat) (w : World) (hx : x < 4294967296) (hy : y < 4294967296) (hc : c ≤ 1) :
    Calls Tryz.prog 92 #[.int .u32 x, .int .u32 y, .int .u32 c] w fun r w' => r = .returned (.tuple #[.int .u32 ((x + y + c) % 4294967296 : Nat), .int .u32 ((x + y + c) / 4294967296 : Nat)]) ∧ w' = w := by
  have HX := hid hx
  have HY := hid hy
  have HC := hid hc
  clear hx hy hc
  go_enter Tryz.func92, Tryz.ntmps92
  go_wp2
  go_ret2
  have hx := HX.out
  have hy := HY.out
  have hc := HC.out
  exact ⟨ret_uu (by simp only [IntKind.wrap_u64]; omega) (by simp only [IntKind.wrap_u64]; omega), rfl⟩
theorem top32 (n : Nat) (h : n < 4294967296) : n / 2147483648 = (n.testBit 31).toNat ∧ n.testBit 31 = decide (2147483648 ≤ n) := by
  have e : n.testBit 31 = decide (n / 2147483648 % 2 = 1) := by
    rw [Nat.testBit_eq_decide_div_mod_eq]
  have e2 : decide (n / 2147483648 % 2 = 1) = decide (2147483648 ≤ n) := decide_eq_decide.2 (by omega)
  rw [e, e2]
  refine ⟨?_, rfl⟩
  by_cases c : 2147483648 ≤ n
  · rw [decide_eq_true c]; show _ = 1; omega
  · rw [decide_eq_false c]; show _ = 0; omega
/-- The borrow of a difference of words. -/
def bor (x y b : Nat) : Nat := if x < y + b then 1 else 0
def dif (x y b : Nat) : Nat := (x + 8589934592 - y - b) % 4294967296
theorem sub32_bits (x y b : Nat) (hx : x < 4294967296) (hy : y < 4294967296) (hb : b ≤ 1) :
    (((4294967295 - x) &&& y) ||| ((4294967295 - (x ^^^ y)) &&& dif x y b)) / 2147483648 = bor x y b := by
  have hd : dif x y b < 4294967296 := Nat.mod_lt _ (by decide)
  have hxy : x ^^^ y < 4294967296 := Nat.xor_lt_two_pow (n := 32) hx hy
  have h1 : ((4294967295 - x) &&& y) < 2 ^ 32 := Nat.and_lt_two_pow _ hy
  have h2 : ((4294967295 - (x ^^^ y)) &&& dif x y b) < 2 ^ 32 := Nat.and_lt_two_pow _ hd
  have h3 : (((4294967295 - x) &&& y) ||| ((4294967295 - (x ^^^ y)) &&& dif x y b)) < 4294967296 := Nat.or_lt_two_pow (n := 32) h1 h2
  have nx : (4294967295 - x).testBit 31 = !x.testBit 31 := by
    have := Nat.testBit_two_pow_sub_succ (n := 32) hx 31
    simpa using this
  have nxy : (4294967295 - (x ^^^ y)).testBit 31 = !(x ^^^ y).testBit 31 := by
    have := Nat.testBit_two_pow_sub_succ (n := 32) hxy 31
    simpa using this
  rw [(top32 _ h3).1, Nat.testBit_or, Nat.testBit_and, Nat.testBit_and, nx, nxy, Nat.testBit_xor, (top32 x hx).2, (top32 y hy).2, (top32 _ hd).2]
  unfold bor dif
  by_cases cx : 2147483648 ≤ x
  · by_cases cy : 2147483648 ≤ y
    · rw [decide_eq_true cx, decide_eq_true cy]
      by_cases c : x < y + b
      · rw [if_pos c, decide_eq_true (by omega)]; rfl
      · rw [if_neg c, decide_eq_false (by omega)]; rfl
    · rw [decide_eq_true cx, decide_eq_false cy, if_neg (by omega)]; simp
  · by_cases cy : 2147483648 ≤ y
    · rw [decide_eq_false cx, decide_eq_true cy, if_pos (by omega)]; simp
    · rw [decide_eq_false cx, decide_eq_false cy]
      by_cases c : x < y + b
      · rw [if_pos c, decide_eq_true (by omega)]; rfl
      · rw [if_neg c, decide_eq_false (by omega)]; rfl
theorem bnot32 (x : Nat) (h : x < 4294967296) : bits .xor .u32 IntKind.u32.max (x : Int) = ((4294967295 - x : Nat) : Int) := by
  have hm : IntKind.u32.max = ((4294967295 : Nat) : Int) := rfl
  rw [hm, u32_xor_nat 4294967295 x (by decide) h]
  congr 1
  apply Nat.eq_of_testBit_eq
  intro i
  have h1 := Nat.testBit_two_pow_sub_succ (n := 32) h i
  have h2 : (4294967295 : Nat).testBit i = decide (i < 32) := Nat.testBit_two_pow_sub_one 32 i
  have h3 : 2 ^ 32 - (x + 1) = 4294967295 - x := by simp only [Nat.reducePow]; omega
  rw [h3] at h1
  rw [h1, Nat.testBit_xor, h2]
  by_cases c : i < 32
  · rw [decide_eq_true c]; simp
  · rw [decide_eq_false c]
    have : x.testBit i = false := Nat.testBit_lt_two_pow (Nat.lt_of_lt_of_le h (by have : (2 : Nat) ^ 32 ≤ 2 ^ i := Nat.pow_le_pow_right (by decide) (by omega); simpa using this))
    rw [this]; rfl
theorem bor_w (x y b : Nat) (hx : x < 4294967296) (hy : y < 4294967296) (hb : b ≤ 1) : bits .or .u32 (bits .and .u32 (bits .xor .u32 IntKind.u32.max (x : Int)) (y : Int)) (bits .and .u32 (bits .xor .u32 IntKind.u32.max (bits .xor .u32 (x : Int) (y : Int))) (((x : Int) - y - b) % 4294967296)) / 2147483648 = (bor x y b : Int) := by
  have hd : dif x y b < 4294967296 := Nat.mod_lt _ (by decide)
  have hxy : x ^^^ y < 4294967296 := Nat.xor_lt_two_pow (n := 32) hx hy
  have h1 : ((4294967295 - x) &&& y) < 4294967296 := Nat.and_lt_two_pow (n := 32) _ hy
  have h2 : ((4294967295 - (x ^^^ y)) &&& dif x y b) < 4294967296 := Nat.and_lt_two_pow (n := 32) _ hd
  have e : ((x : Int) - y - b) % 4294967296 = (dif x y b : Int) := by unfold dif; omega
  rw [e, bnot32 x hx, u32_xor_nat x y hx hy, bnot32 _ hxy, u32_and_nat _ y (by omega) hy, u32_and_nat _ _ (by omega) hd, u32_or_nat _ _ h1 h2, ← sub32_bits x y b hx hy hb]
  omega
set_option maxHeartbeats 400000 in
theorem sub32_any (x y c : Nat) (w : World) (hx : x < 4294967296) (hy : y < 4294967296) (hc : c ≤ 1) :
    Calls Tryz.prog 59 #[.int .u32 x, .int .u32 y, .int .u32 c] w fun r w' => r = .returned (.tuple #[.int .u32 (dif x y c), .int .u32 (bor x y c)]) ∧ w' = w := by
  have HB := hid (bor_w x y c hx hy hc)
  have HD := hid (show (((x : Int) - y) % 4294967296 - c) % 4294967296 = (dif x y c : Int) by unfold dif; omega)
  obtain ⟨B, hB⟩ : ∃ B, Hid (bor x y c = B) := ⟨_, rfl⟩
  obtain ⟨D, hD⟩ : ∃ D, Hid (dif x y c = D) := ⟨_, rfl⟩
  rw [hB.out] at HB ⊢
  rw [hD.out] at HD ⊢
  clear hx hy hc
  have hsg : IntKind.u32.signed = false := rfl
  go_enter Tryz.func59, Tryz.ntmps59
  go_wp2
  go_ret2
  exact ⟨ret_uu HD.out HB.out, rfl⟩
end Go.Proofs.YtphdinjmkhefmaaGreatDoor

namespace Go.Proofs.YtphdinjmkhefmaaGreatDoor
open Go.RowKit Go.IntWalk

/-- New words, trimmed. -/
theorem trim_row (o : Nat → Nat) (M B v : Nat) (W : World) (hR : W.rowIs B 45 M (fun j => .int .u32 (o j))) (hv : natF o M = v) (hd : ∀ j, o j < 4294967296) (hM : M ≤ 1099511627776) :
    Calls Tryz.prog 30 #[.slice (some ⟨B, 0, none⟩) M M] W fun r w' => MagOk v M r w' ∧ w' = W := by
  have HL : ((List.range M).map o).length = M := by rw [List.length_map, List.length_range]
  have hDo : DigL ((List.range M).map o) := by
    intro d hd'
    obtain ⟨i, _, rfl⟩ := List.mem_map.1 hd'
    exact hd i
  have h := trim_any ((List.range M).map o) (some ⟨B, 0, none⟩) M W (row_mag _ _ M _ o hR) (by rw [HL]; exact Nat.le_refl _) (by rw [HL]; exact hM)
  rw [HL] at h
  refine h.mono ?_
  rintro r w1 ⟨⟨j, hj, rfl, hv2, he⟩, rfl⟩
  obtain ⟨hcan, hlen⟩ := can_take _ j (by rw [HL]; exact hj) he
  refine ⟨⟨((List.range M).map o).take j, _, M, by rw [hlen], by rw [hlen]; exact hj, by rw [hlen]; exact hj, (row_mag _ _ M _ _ hR).take j, hDo.take j, hcan, ?_⟩, rfl⟩
  rw [hv2, natF_list]
  exact hv
/-- A row of words of one's own, at least so long. -/
def OwnRow (w : World) (p : Addr) (l : Nat) : Prop := ∃ (b M : Nat) (f : Nat → Int), p = ⟨b, 0, none⟩ ∧ l ≤ M ∧ w.rowIs b 45 M (fun j => .int .u32 (f j))
theorem OwnRow.of_block {w w' : World} {p : Addr} {l : Nat} (h : OwnRow w p l) (e : w'.heap[p.block]? = w.heap[p.block]?) : OwnRow w' p l := by
  obtain ⟨b, M, f, rfl, h1, h2⟩ := h
  exact ⟨b, M, f, rfl, h1, h2.of_block e⟩
theorem OwnRow.lt {w : World} {p : Addr} {l : Nat} (h : OwnRow w p l) : p.block < w.heap.size := by
  obtain ⟨b, M, f, rfl, h1, h2⟩ := h
  exact h2.lt
/-- Words in new memory. -/
def MagNew (v bound B : Nat) (r : Ending) (w' : World) : Prop := ∃ (L' : List Nat) (a' : Option Addr) (cap' : Nat), r = .returned (.slice a' L'.length cap') ∧ (L'.length ≤ cap' ∧ L'.length ≤ bound ∧ MagAt w' a' L' ∧ DigL L' ∧ CanL L' ∧ natL L' = v) ∧ (∀ p, a' = some p → B ≤ p.block ∧ OwnRow w' p L'.length)
theorem trim_new (o : Nat → Nat) (M B v : Nat) (W : World) (hR : W.rowIs B 45 M (fun j => .int .u32 (o j))) (hv : natF o M = v) (hd : ∀ j, o j < 4294967296) (hM : M ≤ 1099511627776) :
    Calls Tryz.prog 30 #[.slice (some ⟨B, 0, none⟩) M M] W fun r w' => MagNew v M B r w' ∧ w' = W := by
  have HL : ((List.range M).map o).length = M := by rw [List.length_map, List.length_range]
  have hDo : DigL ((List.range M).map o) := by
    intro d hd'
    obtain ⟨i, _, rfl⟩ := List.mem_map.1 hd'
    exact hd i
  have h := trim_any ((List.range M).map o) (some ⟨B, 0, none⟩) M W (row_mag _ _ M _ o hR) (by rw [HL]; exact Nat.le_refl _) (by rw [HL]; exact hM)
  rw [HL] at h
  refine h.mono ?_
  rintro r w1 ⟨⟨j, hj, rfl, hv2, he⟩, rfl⟩
  obtain ⟨hcan, hlen⟩ := can_take _ j (by rw [HL]; exact hj) he
  refine ⟨⟨((List.range M).map o).take j, _, M, by rw [hlen], ⟨by rw [hlen]; exact hj, by rw [hlen]; exact hj, (row_mag _ _ M _ _ hR).take j, hDo.take j, hcan, ?_⟩, fun p hp => ?_⟩, rfl⟩
  · rw [hv2, natF_list]
    exact hv
  · cases hp
    exact ⟨Nat.le_refl _, B, M, fun j => (o j : Int), rfl, by rw [hlen]; exact hj, hR⟩
theorem PInv.last {A B : List Nat} {o : Nat → Nat} {c M : Nat} (h : PInv A B o c M) (hA : DigL A) (hB : DigL B) (lA : A.length + 1 ≤ M) (lB : B.length + 1 ≤ M) : natF o M = natL A + natL B := by
  obtain ⟨h1, h2, h3⟩ := h
  rw [List.take_of_length_le (by omega), List.take_of_length_le (by omega)] at h1
  obtain ⟨K, hK⟩ : ∃ K, M = K + 1 := ⟨M - 1, by omega⟩
  have a1 : natL A < 4294967296 ^ K := Nat.lt_of_lt_of_le (natL_lt A hA) (Nat.pow_le_pow_right (by decide) (by omega))
  have b1 : natL B < 4294967296 ^ K := Nat.lt_of_lt_of_le (natL_lt B hB) (Nat.pow_le_pow_right (by decide) (by omega))
  have hc : c = 0 := by
    apply Classical.byContradiction
    intro hc
    have c1 : c = 1 := by omega
    rw [c1, Nat.mul_one, hK, Nat.pow_succ] at h1
    omega
  rw [hc, Nat.mul_zero, Nat.add_zero] at h1
  exact h1
set_option maxRecDepth 4000 in
set_option maxHeartbeats 1000000 in
theorem dplus_any (A B : List Nat) (a b : Option Addr) (ca cb : Nat) (w : World) (hA : MagAt w a A) (hB : MagAt w b B) (dA : DigL A) (dB : DigL B) (hn : A.length ≤ 1000000) (hm : B.length ≤ 1000000) :
    Calls Tryz.prog 76 #[.slice a A.length ca, .slice b B.length cb] w fun r w' => MagOk (natL A + natL B) (max A.length B.length + 1) r w' ∧ Below w.heap.size w w' := by
  have HA := hid hA
  have HB := hid hB
  have HWA : Hid (∀ W k, Below w.heap.size w W → Calls Tryz.prog 60 #[.slice a A.length ca, .int .i64 (k : Nat)] W fun r w' => r = .returned (.int .u32 (A.getD k 0)) ∧ w' = W) := fun W k hb => word_any A a ca k W (hA.below hb)
  have HWB : Hid (∀ W k, Below w.heap.size w W → Calls Tryz.prog 60 #[.slice b B.length cb, .int .i64 (k : Nat)] W fun r w' => r = .returned (.int .u32 (B.getD k 0)) ∧ w' = W) := fun W k hb => word_any B b cb k W (hB.below hb)
  have HL : Hid (∀ o c, PInv A B o c (max A.length B.length + 1) → natF o (max A.length B.length + 1) = natL A + natL B) := fun o c h => h.last dA dB (by omega) (by omega)
  have HLE := hid (show max A.length B.length + 1 ≤ 1099511627776 by omega)
  obtain ⟨n, hnl⟩ : ∃ n, Hid (A.length = n) := ⟨_, rfl⟩
  obtain ⟨m, hml⟩ : ∃ m, Hid (B.length = m) := ⟨_, rfl⟩
  obtain ⟨M, hM⟩ : ∃ M, Hid (max n m + 1 = M) := ⟨_, rfl⟩
  rw [hnl.out] at hn HWA
  rw [hml.out] at hm HWB
  rw [hnl.out, hml.out, hM.out] at HL HLE
  rw [hnl.out, hml.out, hM.out]
  obtain ⟨X, hX⟩ : ∃ X, (n < m ∧ X = m) ∨ (¬ n < m ∧ X = n) := by
    by_cases h : n < m
    · exact ⟨m, Or.inl ⟨h, rfl⟩⟩
    · exact ⟨n, Or.inr ⟨h, rfl⟩⟩
  have hM1 : IntKind.i64.wrap ((X : Int) + 1) = (M : Int) := by have := hM.out; rw [IntWalk.i64_in _ (by omega)]; omega
  have hM2 : (X : Int) + 1 = (M : Int) := by have := hM.out; omega
  have hmk := run_make_row' (P := Tryz.prog) 25 45 (.int .u32 0) 4 Tryz.underlying25 infoU rfl .i64 .i64 M (by have := hM.out; omega) (by have := hM.out; omega)
  have HMB := hid (show M ≤ 1000001 by have := hM.out; omega)
  clear hA hB
  rcases hX with ⟨hnm, rfl⟩ | ⟨hnm, rfl⟩
  all_goals
    go_enter Tryz.func76, Tryz.ntmps76
    go_wp2
    go_loopw [6, 17] (fun cv i wr => ∃ (k c : Nat) (o : Nat → Nat), k ≤ M ∧ cv = .int .u32 c ∧ i = .int .i64 k ∧ Hid (wr.rowIs w.heap.size 45 M (fun j => .int .u32 (o j))) ∧ Hid (PInv A B o c k) ∧ Hid (Below w.heap.size w wr)) (fun _ i _ => M - (intOf i).toNat)
    case atStart => exact ⟨0, 0, fun _ => 0, Nat.zero_le _, rfl, rfl, World.rowIs_made w (.int .u32 0) M _, ⟨rfl, by decide, fun _ => (show 0 < 4294967296 by decide)⟩, (Below.refl _ _).alloc (Nat.le_refl _) _⟩
    case round =>
      obtain ⟨k, c, o, hkn, rfl, rfl, HR, HI, HBW⟩ := hrel
      by_cases hlt : k < M
      · have HST := hid (HI.out.step dA dB)
        have fx := HR.out.frozen
        have hlt2 := HR.out.lt
        have hkMI : (k : Int) < (M : Int) := by omega
        have cx := HR.out.cell (i := k) hlt
        have HAD := hid (fun (W : World) => add32_any (A.getD k 0) (B.getD k 0) c W (dA.get k) (dB.get k) HI.out.2.1)
        rw [show A.getD k 0 + B.getD k 0 + c = A.getD k 0 + c + B.getD k 0 by omega] at HAD
        obtain ⟨x, hx⟩ : ∃ x, Hid (A.getD k 0 = x) := ⟨_, rfl⟩
        obtain ⟨y, hy⟩ : ∃ y, Hid (B.getD k 0 = y) := ⟨_, rfl⟩
        have HA1 := hid (HWA.out wr k HBW.out)
        have HB1 := hid (HWB.out wr k HBW.out)
        rw [hx.out] at HA1 HAD HST
        rw [hy.out] at HB1 HAD HST
        obtain ⟨lo, hlo⟩ : ∃ lo, Hid ((x + c + y) % 4294967296 = lo) := ⟨_, rfl⟩
        obtain ⟨hi, hhi⟩ : ∃ hi, Hid ((x + c + y) / 4294967296 = hi) := ⟨_, rfl⟩
        rw [hlo.out, hhi.out] at HAD HST
        go_wp2_with fail
        refine HA1.out.mono ?_
        rintro r w1 ⟨rfl, rfl⟩
        go_wp2_with fail
        refine HB1.out.mono ?_
        rintro r w1 ⟨rfl, rfl⟩
        go_wp2_with fail
        refine (HAD.out _).mono ?_
        rintro r w1 ⟨rfl, rfl⟩
        go_wp2
        refine ⟨⟨k + 1, hi, _, by omega, rfl, by go_num, (HR.out.set k _).congr (fun j _ => row_if o k lo j), HST, Below.setCell HBW.out (Nat.le_refl _) _⟩, ?_⟩
        simp [intOf]; omega
      · have hkM : k = M := by omega
        subst hkM
        have HT := hid (trim_row o k w.heap.size _ wr HR.out (HL.out o c HI.out) HI.out.2.2 HLE.out)
        have HBE := HBW
        clear HR HI hlt
        go_wp2_with fail
        refine HT.out.mono ?_
        rintro r w1 ⟨hr, rfl⟩
        obtain ⟨L', a', cap', rfl, hr2⟩ := hr
        have HR2 := hid hr2
        clear hr2
        go_wp2
        go_ret
        exact ⟨⟨L', a', cap', rfl, HR2.out⟩, HBE.out⟩
theorem dif_eq (x y c : Nat) (hx : x < 4294967296) (hy : y < 4294967296) (hc : c ≤ 1) : c + y + dif x y c = x + 4294967296 * bor x y c ∧ dif x y c < 4294967296 ∧ bor x y c ≤ 1 := by
  unfold dif bor
  split <;> omega
set_option maxRecDepth 4000 in
set_option maxHeartbeats 1000000 in
theorem dminus_any (A B : List Nat) (a b : Option Addr) (ca cb : Nat) (w : World) (hA : MagAt w a A) (hB : MagAt w b B) (dA : DigL A) (dB : DigL B) (hl : B.length ≤ A.length) (hn : A.length ≤ 1000000) (hle : natL B ≤ natL A) :
    Calls Tryz.prog 33 #[.slice a A.length ca, .slice b B.length cb] w fun r w' => MagOk (natL A - natL B) A.length r w' ∧ Below w.heap.size w w' := by
  have HA := hid hA
  have HWB : Hid (∀ W k, Below w.heap.size w W → Calls Tryz.prog 60 #[.slice b B.length cb, .int .i64 (k : Nat)] W fun r w' => r = .returned (.int .u32 (B.getD k 0)) ∧ w' = W) := fun W k hb => word_any B b cb k W (hB.below hb)
  obtain ⟨n, hnl⟩ : ∃ n, Hid (A.length = n) := ⟨_, rfl⟩
  obtain ⟨m, hml⟩ : ∃ m, Hid (B.length = m) := ⟨_, rfl⟩
  rw [hnl.out] at hn hl ⊢
  rw [hml.out] at hl HWB ⊢
  have hmk := run_make_row' (P := Tryz.prog) 25 45 (.int .u32 0) 4 Tryz.underlying25 infoU rfl .i64 .i64 n (by omega) (by omega)
  have HFIN : Hid (∀ o c, MInv A B o c n → natF o n = natL A - natL B) := fun o c h => h.fin hnl.out (by rw [hml.out]; exact hl) hle
  clear hA hB hle
  go_enter Tryz.func33, Tryz.ntmps33
  go_wp2
  go_loopw [6, 13] (fun cv i wr => ∃ (k c : Nat) (o : Nat → Nat), k ≤ n ∧ cv = .int .u32 c ∧ i = .int .i64 k ∧ Hid (wr.rowIs w.heap.size 45 n (fun j => .int .u32 (o j))) ∧ Hid (MInv A B o c k) ∧ Hid (Below w.heap.size w wr)) (fun _ i _ => n - (intOf i).toNat)
  case atStart => exact ⟨0, 0, fun _ => 0, Nat.zero_le _, rfl, rfl, World.rowIs_made w (.int .u32 0) n _, ⟨rfl, by decide, fun _ => (show 0 < 4294967296 by decide)⟩, (Below.refl _ _).alloc (Nat.le_refl _) _⟩
  case round =>
    obtain ⟨k, c, o, hkn, rfl, rfl, HR, HI, HBW⟩ := hrel
    by_cases hlt : k < n
    · obtain ⟨ba, oa, rfl, hba, hca0⟩ := HA.out k (by rw [hnl.out]; exact hlt)
      have hca : wr.cell? ⟨ba, oa + k, none⟩ = some (.int .u32 (A.getD k 0)) := by
        rw [HBW.out.cell (p := ⟨ba, oa + k, none⟩) hba]
        exact hca0
      obtain ⟨e1, e2, e3⟩ := dif_eq (A.getD k 0) (B.getD k 0) c (dA.get k) (dB.get k) HI.out.2.1
      have HST := hid (HI.out.step e2 e3 e1)
      have HSU := hid (fun (W : World) => sub32_any (A.getD k 0) (B.getD k 0) c W (dA.get k) (dB.get k) HI.out.2.1)
      have fx := HR.out.frozen
      have hlt2 := HR.out.lt
      have hkMI : (k : Int) < (n : Int) := by omega
      have hk0 : (0 : Int) ≤ (k : Int) := by omega
      have cx := HR.out.cell (i := k) hlt
      have HB1 : Hid (∀ W, Hid (Below w.heap.size w W) → Calls Tryz.prog 60 #[.slice b m cb, .int .i64 (k : Nat)] W fun r w' => r = .returned (.int .u32 (B.getD k 0)) ∧ w' = W) := fun W hb => HWB.out W k hb.out
      have HBD : Hid (Below w.heap.size w wr.drew) := HBW.out.drew
      obtain ⟨x, hx⟩ : ∃ x, Hid (A.getD k 0 = x) := ⟨_, rfl⟩
      obtain ⟨y, hy⟩ : ∃ y, Hid (B.getD k 0 = y) := ⟨_, rfl⟩
      rw [hx.out] at hca HSU HST
      rw [hy.out] at HB1 HSU HST
      obtain ⟨D, hD⟩ : ∃ D, Hid (dif x y c = D) := ⟨_, rfl⟩
      obtain ⟨B', hB'⟩ : ∃ B', Hid (bor x y c = B') := ⟨_, rfl⟩
      rw [hD.out, hB'.out] at HSU HST
      have hne : ¬ ba = w.heap.size := by omega
      have hne2 : ¬ w.heap.size = ba := by omega
      clear hca0 hba e1 e2 e3
      go_wp2_with fail
      go_region_held3 (fun W => W.cell? ⟨ba, oa + k, none⟩ = some (.int .u32 x)) (go_keep)
        (first
          | (go_at_call 60; refine (HB1.out _ (by first | exact HBD | exact HBW)).mono ?_; rintro r w1 ⟨rfl, rfl⟩)
          | (go_at_call 59; refine (HSU.out _).mono ?_; rintro r w1 ⟨rfl, rfl⟩))
      all_goals go_wp2
      all_goals
        refine ⟨⟨k + 1, B', _, by omega, rfl, by go_num, (((HR.out.set k _).congr (fun j _ => row_if o k D j)).drew), HST, (Below.setCell HBW.out (Nat.le_refl _) _).drew⟩, ?_⟩
        simp [intOf]; omega
    · have hkM : k = n := by omega
      subst hkM
      have HT := hid (trim_row o k w.heap.size _ wr HR.out (HFIN.out o c HI.out) HI.out.2.2 (by omega))
      have HBE := HBW
      clear HR HI hlt
      go_wp2_with fail
      refine HT.out.mono ?_
      rintro r w1 ⟨hr, rfl⟩
      obtain ⟨L', a', cap', rfl, hr2⟩ := hr
      have HR2 := hid hr2
      clear hr2
      go_wp2
      go_ret
      exact ⟨⟨L', a', cap', rfl, HR2.out⟩, HBE.out⟩
end Go.Proofs.YtphdinjmkhefmaaGreatDoor
