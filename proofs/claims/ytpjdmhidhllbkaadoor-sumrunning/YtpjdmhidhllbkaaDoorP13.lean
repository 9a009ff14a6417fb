
/- What the document's Lsh does, where a number is shifted itself. -/
import Derived.Test.YtpjdmhidhllbkaaDoorP9
import Derived.Deep.RegionWith
namespace Go.Proofs.YtpjdmhidhllbkaaDoor
open Go.RowKit Go.IntWalk

end Go.Proofs.YtpjdmhidhllbkaaDoor

namespace Go.Proofs.YtpjdmhidhllbkaaDoor
open Go.RowKit Go.IntWalk

end Go.Proofs.YtpjdmhidhllbkaaDoor

namespace Go.Proofs.YtpjdmhidhllbkaaDoor
open Go.RowKit Go.IntWalk

/-- What holds ahead of the k-th round of plus. -/
def PInv (A B : List Nat) (o : Nat → Nat) (c k : Nat) : Prop := natF o k + 4294967296 ^ k * c = natL (A.take k) + natL (B.take k) ∧ c ≤ 1 ∧ ∀ j, o j < 4294967296
theorem natL_take_any (B : List Nat) (k : Nat) : natL (B.take (k + 1)) = natL (B.take k) + 4294967296 ^ k * B.getD k 0 := by
  by_cases h : k < B.length
  · exact natL_take_succ B k h
  · rw [List.take_of_length_le (by omega), List.take_of_length_le (by omega)]
    simp [List.getD, h]
theorem PInv.step {A B : List Nat} {o : Nat → Nat} {c k : Nat} (h : PInv A B o c k) (hA : DigL A) (hB : DigL B) : PInv A B (fun j => if j = k then (A.getD k 0 + c + B.getD k 0) % 4294967296 else o j) ((A.getD k 0 + c + B.getD k 0) / 4294967296) (k + 1) := by
  obtain ⟨h1, h2, h3⟩ := h
  have ha := hA.get k
  have hb := hB.get k
  refine ⟨?_, by omega, fun j => ?_⟩
  · rw [natL_take_any, natL_take_any]
    show natF _ k + 4294967296 ^ k * (if k = k then _ else o k) + _ = _
    rw [if_pos rfl, natF_congr _ o k (fun j hj => if_neg (by omega)), Nat.pow_succ]
    have e := Nat.div_add_mod (A.getD k 0 + c + B.getD k 0) 4294967296
    obtain ⟨Q, hQ⟩ : ∃ Q, (A.getD k 0 + c + B.getD k 0) / 4294967296 = Q := ⟨_, rfl⟩
    obtain ⟨R, hR⟩ : ∃ R, (A.getD k 0 + c + B.getD k 0) % 4294967296 = R := ⟨_, rfl⟩
    rw [hQ, hR] at e ⊢
    have e2 : 4294967296 ^ k * (4294967296 * Q + R) = 4294967296 ^ k * (A.getD k 0 + c + B.getD k 0) := by rw [e]
    rw [Nat.mul_add, Nat.mul_add, Nat.mul_add, ← Nat.mul_assoc] at e2
    omega
  · show (if j = k then _ else o j) < _
    split
    · exact Nat.mod_lt _ (by decide)
    · exact h3 j
theorem row_if (o : Nat → Nat) (k v j : Nat) : (if j = k then Value.int .u32 (v : Int) else Value.int .u32 (o j : Int)) = Value.int .u32 (((if j = k then v else o j) : Nat) : Int) := by
  by_cases c : j = k
  · rw [if_pos c, if_pos c]
  · rw [if_neg c, if_neg c]
end Go.Proofs.YtpjdmhidhllbkaaDoor

namespace Go.Proofs.YtpjdmhidhllbkaaDoor
open Go.RowKit Go.IntWalk

set_option maxHeartbeats 1000000 in
theorem trim_some (L : List Nat) (b off cap : Nat) (w : World) (hcell : ∀ i, i < L.length → w.cell? ⟨b, off + i, none⟩ = some (.int .u32 (L.getD i 0))) (hcap : L.length ≤ cap) (hn : L.length ≤ 1099511627776) :
    Calls Tryd.prog 61 #[.slice (some ⟨b, off, none⟩) L.length cap] w fun r w' => (∃ k, k ≤ L.length ∧ r = .returned (.slice (some ⟨b, off, none⟩) k cap) ∧ natL (L.take k) = natL L ∧ EndOk L k) ∧ w' = w := by
  have HC := hid hcell
  have hL := hid (show natL (L.take L.length) = natL L by rw [List.take_length])
  obtain ⟨n, hnl⟩ : ∃ n, Hid (L.length = n) := ⟨_, rfl⟩
  rw [hnl.out] at hn hcap hL ⊢
  clear hcell
  go_enter Tryd.func61, Tryd.ntmps61
  go_wp2
  go_loop [3] (fun v => ∃ k : Nat, k ≤ n ∧ v = .int .i64 k ∧ Hid (natL (L.take k) = natL L)) (fun v => (intOf v).toNat)
  case atStart => exact ⟨n, Nat.le_refl _, rfl, hL⟩
  case round =>
    obtain ⟨k, hkn, rfl, HA⟩ := hrel
    by_cases hk0 : k = 0
    · subst hk0
      go_wp2
      go_ret
      exact ⟨⟨0, Nat.zero_le _, rfl, HA.out, fun h => absurd rfl h⟩, rfl⟩
    · obtain ⟨j, hj⟩ : ∃ j, k = j + 1 := ⟨k - 1, by omega⟩
      subst hj
      have hck := HC.out j (by rw [hnl.out]; omega)
      have HZ := hid (natL_take_zero L j (by rw [hnl.out]; omega))
      obtain ⟨d, hd⟩ : ∃ d, Hid (L.getD j 0 = d) := ⟨_, rfl⟩
      rw [hd.out] at hck HZ
      have hcast : (((j + 1 : Nat) : Int) - 1) = (j : Int) := by omega
      have hcapj : j + 1 ≤ cap := by omega
      have hpos : ((j + 1 : Nat) : Int) > 0 := by omega
      by_cases hd0 : d = 0
      · subst hd0
        go_wp2
        exact ⟨⟨j, by omega, by go_num, (HZ.out rfl).symm.trans HA.out⟩, by simp [intOf]⟩
      · have hdb : ((d : Int) == 0) = false := by simpa using hd0
        have HD := hid hd0
        clear hd0
        go_wp2
        go_ret
        exact ⟨⟨j + 1, hkn, rfl, HA.out, fun _ => by rw [Nat.add_sub_cancel, hd.out]; exact HD.out⟩, rfl⟩
set_option maxHeartbeats 400000 in
theorem trim_none (cap : Nat) (a : Option Addr) (w : World) :
    Calls Tryd.prog 61 #[.slice a 0 cap] w fun r w' => r = .returned (.slice a 0 cap) ∧ w' = w := by
  go_enter Tryd.func61, Tryd.ntmps61
  go_wp2
  refine wp_loop_rounds 1 ?_
  rw [rounds_succ]
  go_wp2
  go_ret
  exact ⟨rfl, rfl⟩
theorem trim_any (L : List Nat) (a : Option Addr) (cap : Nat) (w : World) (h : MagAt w a L) (hcap : L.length ≤ cap) (hn : L.length ≤ 1099511627776) :
    Calls Tryd.prog 61 #[.slice a L.length cap] w fun r w' => (∃ k, k ≤ L.length ∧ r = .returned (.slice a k cap) ∧ natL (L.take k) = natL L ∧ EndOk L k) ∧ w' = w := by
  by_cases h0 : L.length = 0
  · have hl : L = [] := List.length_eq_zero_iff.1 h0
    rw [h0]
    refine (trim_none cap a w).mono ?_
    rintro r w' ⟨rfl, rfl⟩
    exact ⟨⟨0, Nat.le_refl _, rfl, by rw [hl]; rfl, fun c => absurd rfl c⟩, rfl⟩
  · obtain ⟨b, off, rfl, hb, _⟩ := h 0 (by omega)
    refine trim_some L b off cap w (fun i hi => ?_) hcap hn
    obtain ⟨b', off', e, _, hc⟩ := h i hi
    cases e
    exact hc
set_option maxHeartbeats 400000 in
theorem word_any (L : List Nat) (a : Option Addr) (cap i : Nat) (w : World) (h : MagAt w a L) :
    Calls Tryd.prog 72 #[.slice a L.length cap, .int .i64 i] w fun r w' => r = .returned (.int .u32 (L.getD i 0)) ∧ w' = w := by
  by_cases hi : i < L.length
  · obtain ⟨b, off, rfl, hb, hc⟩ := h i hi
    obtain ⟨d, hd⟩ : ∃ d, Hid (L.getD i 0 = d) := ⟨_, rfl⟩
    rw [hd.out] at hc ⊢
    obtain ⟨n, hnl⟩ : ∃ n, Hid (L.length = n) := ⟨_, rfl⟩
    rw [hnl.out] at hi ⊢
    have hii : (i : Int) < (n : Int) := by omega
    clear h hb
    go_enter Tryd.func72, Tryd.ntmps72
    go_wp2
    go_ret
    exact ⟨rfl, rfl⟩
  · have hd : L.getD i 0 = 0 := by simp [List.getD, hi]
    rw [hd]
    obtain ⟨n, hnl⟩ : ∃ n, Hid (L.length = n) := ⟨_, rfl⟩
    rw [hnl.out] at hi ⊢
    have hii : ¬ (i : Int) < (n : Int) := by omega
    clear h
    go_enter Tryd.func72, Tryd.ntmps72
    go_wp2
    go_ret
    exact ⟨rfl, rfl⟩
theorem ret_uu {a b a' b' : Int} (h1 : a = a') (h2 : b = b') : Ending.returned (.tuple #[.int .u32 a, .int .u32 b]) = .returned (.tuple #[.int .u32 a', .int .u32 b']) := by rw [h1, h2]
set_option maxHeartbeats 400000 in
theorem add32_any (x y c : Nat) (w : World) (hx : x < 4294967296) (hy : y < 4294967296) (hc : c ≤ 1) :
    Calls Tryd.prog 96 #[.int .u32 x, .int .u32 y, .int .u32 c] w fun r w' => r = .returned (.tuple #[.int .u32 ((x + y + c) % 4294967296 : Nat), .int .u32 ((x + y + c) / 4294967296 : Nat)]) ∧ w' = w := by
  have HX := hid hx
  have HY := hid hy
  have HC := hid hc
  clear hx hy hc
  go_enter Tryd.func96, Tryd.ntmps96
  go_wp2
  go_ret2
  have hx := HX.out
  have hy := HY.out
  have hc := HC.out
  exact ⟨ret_uu (by simp only [IntKind.wrap_u64]; omega) (by simp only [IntKind.wrap_u64]; omega), rfl⟩
theorem top32 (n : Nat) (h : n < 4294967296) : n / 2147483648 = (n.testBit 31).toNat ∧ n.testBit 31 = decide (2147483648 ≤ n) := by
  have e : n.testBit 31 = decide (n / 2147483648 % 2 = 1) := by
    rw [Nat.testBit_eq_decide_div_mod_eq]
  have e2 : decide (n / 2147483648 % 2 = 1) = decide (2147483648 ≤ n) := decide_eq_decide.2 (by omega)
  rw [e, e2]
  refine ⟨?_, rfl⟩
  by_cases c : 2147483648 ≤ n
  · rw [decide_eq_true c]; show _ = 1; omega
  · rw [decide_eq_false c]; show _ = 0; omega
/-- The borrow of a difference of words. -/
def bor (x y b : Nat) : Nat := if x < y + b then 1 else 0
def dif (x y b : Nat) : Nat := (x + 8589934592 - y - b) % 4294967296
theorem sub32_bits (x y b : Nat) (hx : x < 4294967296) (hy : y < 4294967296) (hb : b ≤ 1) :
    (((4294967295 - x) &&& y) ||| ((4294967295 - (x ^^^ y)) &&& dif x y b)) / 2147483648 = bor x y b := by
  have hd : dif x y b < 4294967296 := Nat.mod_lt _ (by decide)
  have hxy : x ^^^ y < 4294967296 := Nat.xor_lt_two_pow (n := 32) hx hy
  have h1 : ((4294967295 - x) &&& y) < 2 ^ 32 := Nat.and_lt_two_pow _ hy
  have h2 : ((4294967295 - (x ^^^ y)) &&& dif x y b) < 2 ^ 32 := Nat.and_lt_two_pow _ hd
  have h3 : (((4294967295 - x) &&& y) ||| ((4294967295 - (x ^^^ y)) &&& dif x y b)) < 4294967296 := Nat.or_lt_two_pow (n := 32) h1 h2
  have nx : (4294967295 - x).testBit 31 = !x.testBit 31 := by
    have := Nat.testBit_two_pow_sub_succ (n := 32) hx 31
    simpa using this
  have nxy : (4294967295 - (x ^^^ y)).testBit 31 = !(x ^^^ y).testBit 31 := by
    have := Nat.testBit_two_pow_sub_succ (n := 32) hxy 31
    simpa using this
  rw [(top32 _ h3).1, Nat.testBit_or, Nat.testBit_and, Nat.testBit_and, nx, nxy, Nat.testBit_xor, (top32 x hx).2, (top32 y hy).2, (top32 _ hd).2]
  unfold bor dif
  by_cases cx : 2147483648 ≤ x
  · by_cases cy : 2147483648 ≤ y
    · rw [decide_eq_true cx, decide_eq_true cy]
      by_cases c : x < y + b
      · rw [if_pos c, decide_eq_true (by omega)]; rfl
      · rw [if_neg c, decide_eq_false (by omega)]; rfl
    · rw [decide_eq_true cx, decide_eq_false cy, if_neg (by omega)]; simp
  · by_cases cy : 2147483648 ≤ y
    · rw [decide_eq_false cx, decide_eq_true cy, if_pos (by omega)]; simp
    · rw [decide_eq_false cx, decide_eq_false cy]
      by_cases c : x < y + b
      · rw [if_pos c, decide_eq_true (by omega)]; rfl
      · rw [if_neg c, decide_eq_false (by omega)]; rfl
theorem bnot32 (x : Nat) (h : x < 4294967296) : bits .xor .u32 IntKind.u32.max (x : Int) = ((4294967295 - x : Nat) : Int) := by
  have hm : IntKind.u32.max = ((4294967295 : Nat) : Int) := rfl
  rw [hm, u32_xor_nat 4294967295 x (by decide) h]
  congr 1
  apply Nat.eq_of_testBit_eq
  intro i
  have h1 := Nat.testBit_two_pow_sub_succ (n := 32) h i
  have h2 : (4294967295 : Nat).testBit i = decide (i < 32) := Nat.testBit_two_pow_sub_one 32 i
  have h3 : 2 ^ 32 - (x + 1) = 4294967295 - x := by simp only [Nat.reducePow]; omega
  rw [h3] at h1
  rw [h1, Nat.testBit_xor, h2]
  by_cases c : i < 32
  · rw [decide_eq_true c]; simp
  · rw [decide_eq_false c]
    have : x.testBit i = false := Nat.testBit_lt_two_pow (Nat.lt_of_lt_of_le h (by have : (2 : Nat) ^ 32 ≤ 2 ^ i := Nat.pow_le_pow_right (by decide) (by omega); simpa using this))
    rw [this]; rfl
theorem bor_w (x y b : Nat) (hx : x < 4294967296) (hy : y < 4294967296) (hb : b ≤ 1) : bits .or .u32 (bits .and .u32 (bits .xor .u32 IntKind.u32.max (x : Int)) (y : Int)) (bits .and .u32 (bits .xor .u32 IntKind.u32.max (bits .xor .u32 (x : Int) (y : Int))) (((x : Int) - y - b) % 4294967296)) / 2147483648 = (bor x y b : Int) := by
  have hd : dif x y b < 4294967296 := Nat.mod_lt _ (by decide)
  have hxy : x ^^^ y < 4294967296 := Nat.xor_lt_two_pow (n := 32) hx hy
  have h1 : ((4294967295 - x) &&& y) < 4294967296 := Nat.and_lt_two_pow (n := 32) _ hy
  have h2 : ((4294967295 - (x ^^^ y)) &&& dif x y b) < 4294967296 := Nat.and_lt_two_pow (n := 32) _ hd
  have e : ((x : Int) - y - b) % 4294967296 = (dif x y b : Int) := by unfold dif; omega
  rw [e, bnot32 x hx, u32_xor_nat x y hx hy, bnot32 _ hxy, u32_and_nat _ y (by omega) hy, u32_and_nat _ _ (by omega) hd, u32_or_nat _ _ h1 h2, ← sub32_bits x y b hx hy hb]
  omega
set_option maxHeartbeats 400000 in
theorem sub32_any (x y c : Nat) (w : World) (hx : x < 4294967296) (hy : y < 4294967296) (hc : c ≤ 1) :
    Calls Tryd.prog 79 #[.int .u32 x, .int .u32 y, .int .u32 c] w fun r w' => r = .returned (.tuple #[.int .u32 (dif x y c), .int .u32 (bor x y c)]) ∧ w' = w := by
  have HB := hid (bor_w x y c hx hy hc)
  have HD := hid (show (((x : Int) - y) % 4294967296 - c) % 4294967296 = (dif x y c : Int) by unfold dif; omega)
  obtain ⟨B, hB⟩ : ∃ B, Hid (bor x y c = B) := ⟨_, rfl⟩
  obtain ⟨D, hD⟩ : ∃ D, Hid (dif x y c = D) := ⟨_, rfl⟩
  rw [hB.out] at HB ⊢
  rw [hD.out] at HD ⊢
  clear hx hy hc
  have hsg : IntKind.u32.signed = false := rfl
  go_enter Tryd.func79, Tryd.ntmps79
  go_wp2
  go_ret2
  exact ⟨ret_uu HD.out HB.out, rfl⟩
end Go.Proofs.YtpjdmhidhllbkaaDoor

namespace Go.Proofs.YtpjdmhidhllbkaaDoor
open Go.RowKit Go.IntWalk

end Go.Proofs.YtpjdmhidhllbkaaDoor

namespace Go.Proofs.YtpjdmhidhllbkaaDoor
open Go.RowKit Go.IntWalk

/-- What holds ahead of the k-th round of minus. -/
def MInv (A B : List Nat) (o : Nat → Nat) (c k : Nat) : Prop := natF o k + natL (B.take k) = natL (A.take k) + 4294967296 ^ k * c ∧ c ≤ 1 ∧ ∀ j, o j < 4294967296
theorem MInv.step {A B : List Nat} {o : Nat → Nat} {c k r c' : Nat} (h : MInv A B o c k) (hr : r < 4294967296) (hc : c' ≤ 1) (e : c + B.getD k 0 + r = A.getD k 0 + 4294967296 * c') : MInv A B (fun j => if j = k then r else o j) c' (k + 1) := by
  obtain ⟨h1, h2, h3⟩ := h
  refine ⟨?_, hc, fun j => ?_⟩
  · rw [natL_take_any, natL_take_any]
    show natF _ k + 4294967296 ^ k * (if k = k then r else o k) + _ = _
    rw [if_pos rfl, natF_congr _ o k (fun j hj => if_neg (by omega)), Nat.pow_succ]
    have e2 : 4294967296 ^ k * (c + B.getD k 0 + r) = 4294967296 ^ k * (A.getD k 0 + 4294967296 * c') := by rw [e]
    rw [Nat.mul_add, Nat.mul_add, Nat.mul_add, ← Nat.mul_assoc] at e2
    omega
  · show (if j = k then r else o j) < _
    split
    · exact hr
    · exact h3 j
theorem natF_lt (o : Nat → Nat) (n : Nat) (h : ∀ j, o j < 4294967296) : natF o n < 4294967296 ^ n := by
  have := natL_lt ((List.range n).map o) (fun d hd => by obtain ⟨i, _, rfl⟩ := List.mem_map.1 hd; exact h i)
  rwa [natF_list, List.length_map, List.length_range] at this
theorem MInv.fin {A B : List Nat} {o : Nat → Nat} {c n : Nat} (h : MInv A B o c n) (hA : A.length = n) (hB : B.length ≤ n) (hle : natL B ≤ natL A) : natF o n = natL A - natL B := by
  obtain ⟨h1, h2, h3⟩ := h
  rw [List.take_of_length_le (by omega), List.take_of_length_le (by omega)] at h1
  have hlt := natF_lt o n h3
  have hc : c = 0 := by
    apply Classical.byContradiction
    intro hc
    have : c = 1 := by omega
    rw [this, Nat.mul_one] at h1
    omega
  rw [hc, Nat.mul_zero] at h1
  omega
end Go.Proofs.YtpjdmhidhllbkaaDoor

namespace Go.Proofs.YtpjdmhidhllbkaaDoor
open Go.RowKit Go.IntWalk

/-- What a function of two magnitudes needs and leaves: the cells of both numbers stay. -/
def TwoAt (w' : World) (x y : Nat) (n1 n2 : Bool) (va vb : Value) : Prop := (w'.cell? ⟨x, 0, none⟩ = some (.bool n1) ∧ w'.cell? ⟨x, 1, none⟩ = some va) ∧ (w'.cell? ⟨y, 0, none⟩ = some (.bool n2) ∧ w'.cell? ⟨y, 1, none⟩ = some vb)
theorem MagAt.below {w w' : World} {a : Option Addr} {L : List Nat} (h : MagAt w a L) (hb : Below w.heap.size w w') : MagAt w' a L :=
  h.but (But.of_below (z := w.heap.size) hb) (fun b1 off1 e h0 hbz => by
    obtain ⟨b2, off2, e2, hlt2, _⟩ := h 0 (by omega)
    rw [e] at e2
    cases e2
    omega)
end Go.Proofs.YtpjdmhidhllbkaaDoor

namespace Go.Proofs.YtpjdmhidhllbkaaDoor
open Go.RowKit Go.IntWalk

end Go.Proofs.YtpjdmhidhllbkaaDoor

namespace Go.Proofs.YtpjdmhidhllbkaaDoor
open Go.RowKit Go.IntWalk

end Go.Proofs.YtpjdmhidhllbkaaDoor
