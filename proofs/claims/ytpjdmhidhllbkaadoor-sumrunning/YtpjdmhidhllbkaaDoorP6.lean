
/- What the document's left does. -/
import Derived.Test.YtpjdmhidhllbkaaDoorP4
import Derived.Deep.OwnRows
import Derived.Deep.RegionHeld3
namespace Go.Proofs.YtpjdmhidhllbkaaDoor
open Go.RowKit Go.IntWalk

/-- The number of which the first n words are told by a function. -/
def natF (o : Nat → Nat) : Nat → Nat
  | 0 => 0
  | n + 1 => natF o n + 4294967296 ^ n * o n
theorem natF_congr (o p : Nat → Nat) (n : Nat) (h : ∀ j, j < n → o j = p j) : natF o n = natF p n := by
  induction n with
  | zero => rfl
  | succ n ih =>
    show natF o n + _ * o n = natF p n + _ * p n
    rw [ih (fun j hj => h j (by omega)), h n (by omega)]
theorem natF_zero (n : Nat) : natF (fun _ => 0) n = 0 := by
  induction n with
  | zero => rfl
  | succ n ih => show natF _ n + _ * 0 = 0; rw [ih]; rfl
/-- One word more or other. -/
theorem natF_set (o : Nat → Nat) (n i v : Nat) (hi : i < n) : natF (fun j => if j = i then v else o j) n + 4294967296 ^ i * o i = natF o n + 4294967296 ^ i * v := by
  induction n with
  | zero => omega
  | succ n ih =>
    show natF _ n + 4294967296 ^ n * (if n = i then v else o n) + _ = natF o n + 4294967296 ^ n * o n + _
    by_cases h : n = i
    · subst h
      rw [if_pos rfl, natF_congr _ o n (fun j hj => if_neg (by omega))]
      omega
    · rw [if_neg h]
      have := ih (by omega)
      omega
theorem natF_list (o : Nat → Nat) (n : Nat) : natL ((List.range n).map o) = natF o n := by
  induction n with
  | zero => rfl
  | succ n ih =>
    rw [List.range_succ, List.map_append, natL_append, ih, List.length_map, List.length_range]
    show _ + _ * (o n + 4294967296 * 0) = _ + _ * o n
    rw [Nat.mul_zero, Nat.add_zero]
theorem list_get (o : Nat → Nat) (n i : Nat) (hi : i < n) : ((List.range n).map o).getD i 0 = o i := by
  simp [List.getD, hi]
theorem or_low (x0 lo s : Nat) (hs : s < 32) (h0 : x0 < 2 ^ s) (h1 : lo < 4294967296) (h2 : lo % 2 ^ s = 0) : bits .or .u32 (x0 : Int) (lo : Int) = ((x0 + lo : Nat) : Int) := by
  have hx : x0 < 4294967296 := Nat.lt_of_lt_of_le h0 (by have : (2 : Nat) ^ s ≤ 2 ^ 32 := Nat.pow_le_pow_right (by decide) (by omega); simpa using this)
  rw [u32_or_nat x0 lo hx h1]
  congr 1
  obtain ⟨c, hc⟩ : ∃ c, lo = 2 ^ s * c := ⟨lo / 2 ^ s, by have := Nat.div_add_mod lo (2 ^ s); omega⟩
  rw [hc, Nat.or_comm, Nat.add_comm]
  exact (Nat.two_pow_add_eq_or_of_lt h0 c).symm
theorem infoU : (Tryd.prog.info? 64).map (fun i => (i.zero, i.size, i.bytes)) = some (some (.int .u32 0), 1, 4) := by kernel_rfl
/-- What one round of left does to the words. -/
def leftW (o : Nat → Nat) (p t : Nat) : Nat → Nat := fun j => if j = p + 1 then t / 4294967296 else if j = p then o p + t % 4294967296 else o j
theorem leftW_val (o : Nat → Nat) (p t M : Nat) (hp : p + 1 < M) (hz : o (p + 1) = 0) : natF (leftW o p t) M = natF o M + 4294967296 ^ p * t := by
  have h1 := natF_set o M p (o p + t % 4294967296) (by omega)
  have h2 := natF_set (fun j => if j = p then o p + t % 4294967296 else o j) M (p + 1) (t / 4294967296) hp
  rw [if_neg (by omega), hz, Nat.mul_zero, Nat.add_zero] at h2
  have e : natF (leftW o p t) M = natF (fun j => if j = p + 1 then t / 4294967296 else if j = p then o p + t % 4294967296 else o j) M := rfl
  rw [e, h2, Nat.pow_succ]
  have ht : t = 4294967296 * (t / 4294967296) + t % 4294967296 := (Nat.div_add_mod t 4294967296).symm
  have h3 : 4294967296 ^ p * t = 4294967296 ^ p * 4294967296 * (t / 4294967296) + 4294967296 ^ p * (t % 4294967296) := by
    conv => lhs; rw [ht]
    rw [Nat.mul_add, Nat.mul_assoc]
  rw [Nat.mul_add] at h1
  omega
theorem low_sum (x l P Q W : Nat) (hW : P * Q = W) (hx : x < P) (hl : l < W) (hm : l % P = 0) : x + l < W := by
  have hd := Nat.div_add_mod l P
  rw [hm, Nat.add_zero] at hd
  have hlt : l / P < Q := by
    rw [← hW, ← hd] at hl
    exact Nat.lt_of_mul_lt_mul_left hl
  have : P * (l / P + 1) ≤ P * Q := Nat.mul_le_mul_left _ hlt
  rw [Nat.mul_add, Nat.mul_one] at this
  omega
theorem shl_wb (m k : Nat) (h : m * 2 ^ k < 18446744073709551616) : IntKind.u64.wrap ((m : Int) * 2 ^ k) = ((m * 2 ^ k : Nat) : Int) := by
  have e : (m : Int) * 2 ^ k = ((m * 2 ^ k : Nat) : Int) := by rw [Int.natCast_mul, Int.natCast_pow]; rfl
  rw [IntKind.wrap_u64, e]
  omega
/-- What holds ahead of the k-th round. -/
def LInv (L : List Nat) (q s M : Nat) (o : Nat → Nat) (k : Nat) : Prop := natF o M = natL (L.take k) * 2 ^ (32 * q + s) ∧ (∀ j, q + k < j → o j = 0) ∧ o (q + k) < 2 ^ s ∧ ∀ j, o j < 4294967296
theorem LInv.zero (L : List Nat) (q s M : Nat) : LInv L q s M (fun _ => 0) 0 := ⟨by rw [natF_zero]; show 0 = 0 * _; rw [Nat.zero_mul], fun _ _ => rfl, Nat.two_pow_pos s, fun _ => (show 0 < 4294967296 by decide)⟩
theorem pow32 (a : Nat) : 4294967296 ^ a = 2 ^ (32 * a) := by rw [show (4294967296 : Nat) = 2 ^ 32 by decide, ← Nat.pow_mul]
theorem shl_lt (d s : Nat) (hd : d < 4294967296) (hs : s < 32) : d * 2 ^ s < 18446744073709551616 ∧ d * 2 ^ s / 4294967296 < 2 ^ s ∧ d * 2 ^ s % 4294967296 % 2 ^ s = 0 ∧ 2 ^ s ≤ 4294967296 := by
  have hp := Nat.two_pow_pos s
  have h1 : (2 : Nat) ^ s ≤ 2 ^ 32 := Nat.pow_le_pow_right (by decide) (by omega)
  have h32 : (2 : Nat) ^ 32 = 4294967296 := by decide
  rw [h32] at h1
  have h2 : d * 2 ^ s < 4294967296 * 2 ^ s := Nat.mul_lt_mul_of_pos_right hd hp
  have h3 : 4294967296 * 2 ^ s ≤ 4294967296 * 4294967296 := Nat.mul_le_mul_left _ h1
  refine ⟨by omega, ?_, ?_, h1⟩
  · rw [Nat.div_lt_iff_lt_mul (by decide), Nat.mul_comm (2 ^ s)]; exact h2
  · have e : (4294967296 : Nat) = 2 ^ s * 2 ^ (32 - s) := by rw [← Nat.pow_add, Nat.add_sub_cancel' (by omega)]
    rw [e, Nat.mod_mul_right_mod, Nat.mul_mod_left]
theorem LInv.step {L : List Nat} {q s M : Nat} {o : Nat → Nat} {k : Nat} (h : LInv L q s M o k) (hk : k < L.length) (hM : q + L.length + 1 = M) (hs : s < 32) (hD : DigL L) : LInv L q s M (leftW o (q + k) (L.getD k 0 * 2 ^ s)) (k + 1) := by
  obtain ⟨h1, h2, h3, h4⟩ := h
  obtain ⟨t1, t2, t3, t4⟩ := shl_lt (L.getD k 0) s (hD.get k) hs
  obtain ⟨t, ht⟩ : ∃ t, L.getD k 0 * 2 ^ s = t := ⟨_, rfl⟩
  rw [ht] at t1 t2 t3 ⊢
  refine ⟨?_, fun j hj => ?_, ?_, fun j => ?_⟩
  · rw [leftW_val o (q + k) t M (by omega) (h2 _ (by omega)), h1, natL_take_succ L k hk, ← ht, pow32, pow32, Nat.add_mul]
    congr 1
    rw [Nat.mul_comm (L.getD k 0), ← Nat.mul_assoc, ← Nat.pow_add, Nat.mul_comm (2 ^ (32 * k)), Nat.mul_assoc, ← Nat.pow_add, Nat.mul_comm]
    congr 2
    omega
  · unfold leftW
    rw [if_neg (by omega), if_neg (by omega)]
    exact h2 j (by omega)
  · unfold leftW
    rw [if_pos (by omega)]
    exact t2
  · unfold leftW
    split
    · omega
    · split
      · exact low_sum _ _ (2 ^ s) (2 ^ (32 - s)) 4294967296 (by rw [← Nat.pow_add, Nat.add_sub_cancel' (by omega)]) h3 (Nat.mod_lt _ (by decide)) t3
      · exact h4 j
/-- What left answers: new words. -/
def LeftOk (L : List Nat) (q s B : Nat) (L' : List Nat) (w' : World) : Prop := L'.length ≤ q + L.length + 1 ∧ MagAt w' (some ⟨B, 0, none⟩) L' ∧ DigL L' ∧ CanL L' ∧ natL L' = natL L * 2 ^ (32 * q + s)
theorem left_row (o : Nat → Nat) (P T x0 lo hi y j : Nat) (h1 : o P = x0) (h2 : T % 4294967296 = lo) (h3 : T / 4294967296 = hi) (h4 : x0 + lo = y) : (if j = P + 1 then Value.int .u32 (hi : Int) else if j = P then Value.int .u32 (y : Int) else Value.int .u32 (o j : Int)) = Value.int .u32 (leftW o P T j : Int) := by
  unfold leftW
  by_cases c : j = P + 1
  · rw [if_pos c, if_pos c, h3]
  · rw [if_neg c, if_neg c]
    by_cases c2 : j = P
    · rw [if_pos c2, if_pos c2, h1, h2, h4]
    · rw [if_neg c2, if_neg c2]
theorem row_mag (w : World) (B M : Nat) (T : TypeId) (o : Nat → Nat) (h : w.rowIs B T M (fun j => .int .u32 (o j))) : MagAt w (some ⟨B, 0, none⟩) ((List.range M).map o) := by
  intro i hi
  rw [List.length_map, List.length_range] at hi
  refine ⟨B, 0, rfl, h.lt, ?_⟩
  rw [list_get o M i hi, Nat.zero_add]
  exact h.cell hi
end Go.Proofs.YtpjdmhidhllbkaaDoor

namespace Go.Proofs.YtpjdmhidhllbkaaDoor
open Go.RowKit Go.IntWalk

/-- What a function of magnitudes answers: words of a value, that need no cutting. -/
def MagOk (v bound : Nat) (r : Ending) (w' : World) : Prop := ∃ (L' : List Nat) (a' : Option Addr) (cap' : Nat), r = .returned (.slice a' L'.length cap') ∧ L'.length ≤ cap' ∧ L'.length ≤ bound ∧ MagAt w' a' L' ∧ DigL L' ∧ CanL L' ∧ natL L' = v
theorem MagOk.nil (bound : Nat) (w : World) (a : Option Addr) (cap : Nat) : MagOk 0 bound (.returned (.slice a 0 cap)) w :=
  ⟨[], a, cap, rfl, Nat.zero_le _, Nat.zero_le _, fun _ hi => absurd hi (Nat.not_lt_zero _), fun _ hd => absurd hd List.not_mem_nil, fun h => absurd rfl h, rfl⟩
theorem But.cell {z : Nat} {w w' : World} (h : But z w w') {x o : Nat} {v : Value} (hc : w.cell? ⟨x, o, none⟩ = some v) (hx : x ≠ z) : w'.cell? ⟨x, o, none⟩ = some v := by
  rw [← hc]
  exact World.cell?_of_block (h.block x (World.block_lt_of_cell? w _ hc) hx)
/-- What a function of magnitudes has answered, its value taken apart. -/
def MagIs (v bound : Nat) (L' : List Nat) (a' : Option Addr) (cap' : Nat) (w' : World) : Prop := L'.length ≤ cap' ∧ L'.length ≤ bound ∧ MagAt w' a' L' ∧ DigL L' ∧ CanL L' ∧ natL L' = v
end Go.Proofs.YtpjdmhidhllbkaaDoor

namespace Go.Proofs.YtpjdmhidhllbkaaDoor
open Go.RowKit Go.IntWalk

theorem natF_digits (Y k : Nat) : natF (fun i => Y / 4294967296 ^ i % 4294967296) k = Y % 4294967296 ^ k := by
  induction k with
  | zero => show 0 = Y % 1; omega
  | succ k ih =>
    show natF _ k + 4294967296 ^ k * (Y / 4294967296 ^ k % 4294967296) = _
    rw [ih, Nat.mod_pow_succ]
theorem natL_drop (L : List Nat) (j : Nat) : natL (L.drop j) = L.getD j 0 + 4294967296 * natL (L.drop (j + 1)) := by
  by_cases h : j < L.length
  · rw [List.drop_eq_getElem_cons h]
    show L[j] + _ = _
    simp [List.getD, h]
  · rw [List.drop_eq_nil_of_le (by omega), List.drop_eq_nil_of_le (by omega)]
    simp [List.getD, h, natL]
theorem natL_div (L : List Nat) (hD : DigL L) (j : Nat) : natL L / 4294967296 ^ j = natL (L.drop j) := by
  by_cases h : j ≤ L.length
  · have e := natL_append (L.take j) (L.drop j)
    rw [List.take_append_drop, List.length_take, Nat.min_eq_left h] at e
    have hlt := natL_lt (L.take j) (hD.take j)
    rw [List.length_take, Nat.min_eq_left h] at hlt
    rw [e, Nat.add_mul_div_left _ _ (Nat.pow_pos (by decide)), Nat.div_eq_of_lt hlt, Nat.zero_add]
  · rw [List.drop_eq_nil_of_le (by omega)]
    have h1 := natL_lt L hD
    have h2 : 4294967296 ^ L.length ≤ 4294967296 ^ j := Nat.pow_le_pow_right (by decide) (by omega)
    exact Nat.div_eq_of_lt (by omega)
/-- A word of the shifted number. -/
def rWord (L : List Nat) (q s k : Nat) : Nat := natL L / 2 ^ (32 * q + s) / 4294967296 ^ k % 4294967296
theorem rWord_is (L : List Nat) (hD : DigL L) (q s k : Nat) (hs : s < 32) : (L.getD (q + k) 0 + 4294967296 * L.getD (q + k + 1) 0) / 2 ^ s % 4294967296 = rWord L q s k := by
  unfold rWord
  rw [Nat.div_div_eq_div_mul, show 2 ^ (32 * q + s) * 4294967296 ^ k = 4294967296 ^ (q + k) * 2 ^ s by rw [pow32, pow32, ← Nat.pow_add, ← Nat.pow_add]; congr 1; omega, ← Nat.div_div_eq_div_mul, natL_div L hD, natL_drop, natL_drop]
  obtain ⟨d, hd⟩ : ∃ d, L.getD (q + k) 0 = d := ⟨_, rfl⟩
  obtain ⟨e, he⟩ : ∃ e, L.getD (q + k + 1) 0 = e := ⟨_, rfl⟩
  obtain ⟨r, hr⟩ : ∃ r, natL (List.drop (q + k + 1 + 1) L) = r := ⟨_, rfl⟩
  rw [hd, he, hr]
  have hB : (4294967296 : Nat) = 2 ^ s * 2 ^ (32 - s) := by rw [← Nat.pow_add, Nat.add_sub_cancel' (by omega)]
  have e1 : d + 4294967296 * (e + 4294967296 * r) = (d + 4294967296 * e) + 2 ^ s * (4294967296 * (2 ^ (32 - s) * r)) := by
    rw [Nat.mul_add, Nat.add_assoc]
    congr 2
    conv => lhs; rw [← Nat.mul_assoc, Nat.mul_comm 4294967296 4294967296, Nat.mul_assoc]
    rw [Nat.mul_left_comm (2 ^ s)]
    congr 1
    rw [← Nat.mul_assoc, ← hB]
  rw [e1, Nat.add_mul_div_left _ _ (Nat.two_pow_pos s), Nat.add_mul_mod_self_left]
theorem right_val (L : List Nat) (hD : DigL L) (q s M : Nat) (hM : L.length ≤ q + M) : natF (rWord L q s) M = natL L / 2 ^ (32 * q + s) := by
  show natF (fun i => natL L / 2 ^ (32 * q + s) / 4294967296 ^ i % 4294967296) M = _
  rw [natF_digits]
  apply Nat.mod_eq_of_lt
  have h1 := natL_lt L hD
  have h2 : 4294967296 ^ L.length ≤ 4294967296 ^ (q + M) := Nat.pow_le_pow_right (by decide) hM
  rw [Nat.div_lt_iff_lt_mul (Nat.two_pow_pos _)]
  have h3 : 4294967296 ^ (q + M) ≤ 4294967296 ^ M * 2 ^ (32 * q + s) := by
    rw [pow32, pow32, ← Nat.pow_add]
    exact Nat.pow_le_pow_right (by decide) (by omega)
  omega
theorem right_row (L : List Nat) (q s k r j : Nat) (hr : rWord L q s k = r) : (if j = k then Value.int .u32 (r : Int) else Value.int .u32 ((if j < k then rWord L q s j else 0 : Nat) : Int)) = Value.int .u32 ((if j < k + 1 then rWord L q s j else 0 : Nat) : Int) := by
  by_cases c : j = k
  · subst c
    rw [if_pos rfl, if_pos (by omega), hr]
  · rw [if_neg c]
    by_cases c2 : j < k
    · rw [if_pos c2, if_pos (by omega)]
    · rw [if_neg c2, if_neg (by omega)]
end Go.Proofs.YtpjdmhidhllbkaaDoor

namespace Go.Proofs.YtpjdmhidhllbkaaDoor
open Go Go.RowKit Go.IntWalk

def setW (o : Nat → Nat) (p v : Nat) : Nat → Nat := fun j => if j = p then v else o j
/-- One step of the inner loop: a word of the product is laid, the rest is carried. -/
theorem times_step (o : Nat → Nat) (n p x y c : Nat) (hp : p < n) : natF (setW o p ((x * y + o p + c) % 4294967296)) n + 4294967296 ^ (p + 1) * ((x * y + o p + c) / 4294967296) = natF o n + 4294967296 ^ p * (x * y + c) := by
  have h1 := natF_set o n p ((x * y + o p + c) % 4294967296) hp
  obtain ⟨t, ht⟩ : ∃ t, x * y + o p + c = t := ⟨_, rfl⟩
  rw [ht] at h1 ⊢
  have e0 : natF (setW o p (t % 4294967296)) n = natF (fun j => if j = p then t % 4294967296 else o j) n := rfl
  rw [e0, Nat.pow_succ]
  have hd : t = 4294967296 * (t / 4294967296) + t % 4294967296 := (Nat.div_add_mod t 4294967296).symm
  have h3 : 4294967296 ^ p * t = 4294967296 ^ p * 4294967296 * (t / 4294967296) + 4294967296 ^ p * (t % 4294967296) := by
    conv => lhs; rw [hd]
    rw [Nat.mul_add, Nat.mul_assoc]
  have h4 : 4294967296 ^ p * t = 4294967296 ^ p * (x * y + c) + 4294967296 ^ p * o p := by
    rw [← ht, ← Nat.mul_add]
    congr 1
    omega
  omega
/-- The words stay words, and the carry too. -/
theorem times_lt (x y u c : Nat) (hx : x < 4294967296) (hy : y < 4294967296) (hu : u < 4294967296) (hc : c < 4294967296) : x * y + u + c < 18446744073709551616 ∧ (x * y + u + c) / 4294967296 < 4294967296 := by
  have h : x * y ≤ 4294967295 * 4294967295 := Nat.mul_le_mul (by omega) (by omega)
  omega
/-- Ahead of the k-th round of the inner loop, in the i-th of the outer one. -/
def XInv (b : List Nat) (x i n V : Nat) (o : Nat → Nat) (k c : Nat) : Prop := natF o n + 4294967296 ^ (i + k) * c = V + 4294967296 ^ i * (x * natL (b.take k)) ∧ c < 4294967296 ∧ (∀ j, o j < 4294967296) ∧ (∀ j, i + b.length ≤ j → o j = 0)
theorem XInv.zero (b : List Nat) (x i n : Nat) (o : Nat → Nat) (hlt : ∀ j, o j < 4294967296) (hz : ∀ j, i + b.length ≤ j → o j = 0) : XInv b x i n (natF o n) o 0 0 :=
  ⟨by show natF o n + _ * 0 = natF o n + _ * (x * 0); simp, by decide, hlt, hz⟩
theorem XInv.step {b : List Nat} {x i n V : Nat} {o : Nat → Nat} {k c : Nat} (h : XInv b x i n V o k c) (hk : k < b.length) (hn : i + b.length ≤ n) (hx : x < 4294967296) (hb : DigL b) : XInv b x i n V (setW o (i + k) ((x * b.getD k 0 + o (i + k) + c) % 4294967296)) (k + 1) ((x * b.getD k 0 + o (i + k) + c) / 4294967296) := by
  obtain ⟨h1, h2, h3, h4⟩ := h
  refine ⟨?_, (times_lt x _ _ c hx (hb.get k) (h3 _) h2).2, fun j => ?_, fun j hj => ?_⟩
  · have hs := times_step o n (i + k) x (b.getD k 0) c (by omega)
    have e : i + (k + 1) = i + k + 1 := by omega
    rw [e, hs, natL_take_succ b k hk]
    rw [Nat.mul_add (4294967296 ^ (i + k))]
    have e3 : 4294967296 ^ i * (x * (natL (b.take k) + 4294967296 ^ k * b.getD k 0)) = 4294967296 ^ i * (x * natL (b.take k)) + 4294967296 ^ (i + k) * (x * b.getD k 0) := by
      rw [Nat.mul_add x, Nat.mul_add (4294967296 ^ i), Nat.pow_add, ← Nat.mul_assoc x, Nat.mul_comm x (4294967296 ^ k), Nat.mul_assoc (4294967296 ^ k), ← Nat.mul_assoc (4294967296 ^ i) (4294967296 ^ k)]
    rw [e3]
    omega
  · unfold setW
    split
    · exact Nat.mod_lt _ (by decide)
    · exact h3 j
  · unfold setW
    rw [if_neg (by omega)]
    exact h4 j hj
/-- Behind the inner loop the carry is laid too: a row more. -/
theorem XInv.row {b : List Nat} {x i n V : Nat} {o : Nat → Nat} {c : Nat} (h : XInv b x i n V o b.length c) (hn : i + b.length < n) : natF (setW o (i + b.length) c) n = V + 4294967296 ^ i * (x * natL b) ∧ (∀ j, setW o (i + b.length) c j < 4294967296) ∧ (∀ j, i + 1 + b.length ≤ j → setW o (i + b.length) c j = 0) := by
  obtain ⟨h1, h2, h3, h4⟩ := h
  rw [List.take_length] at h1
  have hs := natF_set o n (i + b.length) c hn
  rw [h4 _ (Nat.le_refl _), Nat.mul_zero, Nat.add_zero] at hs
  refine ⟨?_, fun j => ?_, fun j hj => ?_⟩
  · have e0 : natF (setW o (i + b.length) c) n = natF (fun j => if j = i + b.length then c else o j) n := rfl
    rw [e0, hs]
    exact h1
  · unfold setW
    split
    · exact h2
    · exact h3 j
  · unfold setW
    rw [if_neg (by omega)]
    exact h4 j (by omega)
end Go.Proofs.YtpjdmhidhllbkaaDoor
