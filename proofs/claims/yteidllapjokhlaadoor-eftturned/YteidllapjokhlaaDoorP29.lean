
/- What math/bits.TrailingZeros32 does, and dyad's within and May. -/
import Derived.Test.YteidllapjokhlaaDoorDyE
import Derived.Test.YteidllapjokhlaaDoorZeros
import Derived.Test.YteidllapjokhlaaDoorBigLeft
import Derived.Test.YteidllapjokhlaaDoorDyD
import Derived.Deep.QuietTactic
namespace Go.Proofs.YteidllapjokhlaaDoor
open Go.RowKit Go.IntWalk

/-- The library's table for words of 32 bits stands in its variable. -/
def Tab32 (w : World) : Prop := ∀ j, j < 32 → w.cell? ⟨1, j, none⟩ = some (.int .u8 (Lib.deBruijn32tab.getD j 0))
theorem Tab32.below {w w' : World} (h : Tab32 w) (hs : 1 < w.heap.size) (hb : Below w.heap.size w w') : Tab32 w' := fun j hj => by rw [hb.cell (p := ⟨1, j, none⟩) hs]; exact h j hj
theorem tz32_key (x a : Nat) (hx : x < 4294967296) (hx0 : x ≠ 0) (hlow : x &&& (4294967296 - x) = a) :
    IntKind.u32.wrap (bits BinOp.and IntKind.u32 (x : Int) (IntKind.u32.wrap (-(x : Int))) * 125613361) / 134217728 = ((a * 125613361 % 4294967296 / 134217728 : Nat) : Int) := by
  have e1 : IntKind.u32.wrap (-(x : Int)) = ((4294967296 - x : Nat) : Int) := by rw [IntKind.wrap_u32]; omega
  rw [e1, u32_and_nat x _ hx (by omega), hlow, IntKind.wrap_u32]
  omega
set_option maxHeartbeats 400000 in
theorem tz32_core (x k idx : Nat) (w : World) (hx0 : ((x : Int) == 0) = false)
    (key : IntKind.u32.wrap (bits BinOp.and IntKind.u32 (x : Int) (IntKind.u32.wrap (-(x : Int))) * 125613361) / 134217728 = (idx : Int))
    (hi : idx < 32) (hk : k < 32) (hcell : w.cell? ⟨1, idx, none⟩ = some (.int .u8 k)) :
    Calls Tryd.prog 68 #[.int .u32 x] w fun e w' => e = .returned (.int .i64 k) ∧ w' = w := by
  have key2 := key
  simp only [IntKind.wrap_u32] at key2
  go_enter Tryd.func68, Tryd.ntmps68
  go_wp2_with (first | simp only [key] | simp only [key2])
  go_ret
  exact ⟨rfl, rfl⟩
def tz32Of (m : Nat) : Nat := Lib.ctz 32 m
theorem tz32_spec (m : Nat) (h0 : m ≠ 0) (h : m < 4294967296) : tz32Of m < 32 ∧ ∃ k, m = 2 ^ tz32Of m * (2 * k + 1) := by
  obtain ⟨k, hk, hl⟩ := Lib.ctzFrom_spec 32 m (by omega) h
  have e : tz32Of m = Lib.ctzFrom 32 m := by simp [tz32Of, Lib.ctz, h0]
  rw [e]
  exact ⟨hl, k, hk⟩
theorem tz32_any (x : Nat) (w : World) (hx : x < 4294967296) (hx0 : x ≠ 0) (hT : Tab32 w) :
    Calls Tryd.prog 68 #[.int .u32 x] w fun e w' => e = .returned (.int .i64 (tz32Of x)) ∧ w' = w := by
  obtain ⟨hlow, hk⟩ := Lib.lowest_bit 32 x hx0 hx
  obtain ⟨hi, htab⟩ := Lib.deBruijn32_at _ hk
  have hcell := hT _ hi
  rw [htab] at hcell
  exact tz32_core x (Lib.ctz 32 x) _ w (by simpa using hx0) (tz32_key x _ hx hx0 hlow) hi hk hcell
set_option maxHeartbeats 400000 in
theorem within_any (e : Int) (w : World) (h1 : -100000 ≤ e) (h2 : e ≤ 100000) :
    Calls Tryd.prog 107 #[.int .i64 e] w fun r w' => r = .returned (.bool true) ∧ w' = w := by
  go_enter Tryd.func107, Tryd.ntmps107
  go_wp2
  go_ret
  exact ⟨rfl, rfl⟩
/-- A dyad that may be. -/
def DyMay (neg : Bool) (L : List Nat) (e : Int) : Prop := (L = [] ∧ neg = false ∧ e = 0) ∨ (L ≠ [] ∧ natL L % 2 = 1 ∧ CanL L ∧ L.length ≤ 2048 ∧ -100000 ≤ e ∧ e ≤ 100000)
set_option maxHeartbeats 1000000 in
theorem May_yes (neg : Bool) (L : List Nat) (a : Option Addr) (cap : Nat) (e : Int) (w : World) (hm : MagAt w a L) (h : DyMay neg L e) :
    Calls Tryd.prog 96 #[.agg #[.bool neg, .slice a L.length cap, .int .i64 e]] w fun r w' => r = .returned (.bool true) ∧ Below w.heap.size w w' := by
  rcases h with ⟨rfl, rfl, rfl⟩ | ⟨h0, hodd, hcan, hlen, he1, he2⟩
  · show Calls Tryd.prog 96 #[.agg #[.bool false, .slice a 0 cap, .int .i64 0]] w _
    clear hm
    go_enter Tryd.func96, Tryd.ntmps96
    go_wp2
    go_ret
    exact ⟨rfl, (Below.refl _ _).alloc (Nat.le_refl _) _⟩
  · have hl0 : L.length ≠ 0 := fun c => h0 (List.length_eq_zero_iff.1 c)
    obtain ⟨b, off, rfl, hb, hc0⟩ := hm 0 (by omega)
    obtain ⟨b', off', e', hb', hc1⟩ := hm (L.length - 1) (by omega)
    cases e'
    have hx := hcan h0
    have hy := natL_mod L
    rw [hodd] at hy
    obtain ⟨n, hn⟩ : ∃ n, Hid (L.length = n) := ⟨_, rfl⟩
    rw [hn.out] at hlen hl0 hc1 hx ⊢
    obtain ⟨x, hx'⟩ : ∃ x, Hid (L.getD (n - 1) 0 = x) := ⟨_, rfl⟩
    obtain ⟨y, hy'⟩ : ∃ y, Hid (L.getD 0 0 = y) := ⟨_, rfl⟩
    rw [hx'.out] at hc1 hx
    rw [hy'.out, Nat.add_zero] at hc0
    rw [hy'.out] at hy
    obtain ⟨k, hk⟩ : ∃ k, Hid (n = k + 1) := ⟨n - 1, show n = n - 1 + 1 by omega⟩
    have hkk : n - 1 = k := by have := hk.out; omega
    rw [hkk] at hc1
    have hk1 : IntKind.i64.wrap ((n : Int) - 1) = (k : Int) := by have := hk.out; rw [IntWalk.i64_in _ (by omega)]; omega
    have hk2 : (n : Int) - 1 = (k : Int) := by have := hk.out; omega
    have hkn : ((n : Int) == 0) = false := by simp; omega
    have hkb : (k : Int) < (n : Int) := by omega
    have hxb : ((x : Int) == 0) = false := by simpa using hx
    have hyb : (y : Int) % 2 = 1 := by omega
    have hlI : (n : Int) ≤ 2048 := by omega
    have h0n : (0 : Int) < (n : Int) := by omega
    clear hkk
    have hbw : b < w.heap.size := hb
    have HW := hid (fun (W : World) => within_any e W he1 he2)
    clear hm hodd hcan hy hlen hl0 h0 hb hb' he1 he2 hx' hy' hn hk
    go_enter Tryd.func96, Tryd.ntmps96
    go_wp2_with fail
    refine (HW.out _).mono ?_
    rintro r w1 ⟨rfl, rfl⟩
    go_wp2
    go_ret
    exact ⟨ret_bool (by simpa using hx), (Below.refl _ _).alloc (Nat.le_refl _) _⟩
end Go.Proofs.YteidllapjokhlaaDoor

namespace Go.Proofs.YteidllapjokhlaaDoor
open Go Go.RowKit Go.IntWalk

def setW (o : Nat → Nat) (p v : Nat) : Nat → Nat := fun j => if j = p then v else o j
/-- One step of the inner loop: a word of the product is laid, the rest is carried. -/
theorem times_step (o : Nat → Nat) (n p x y c : Nat) (hp : p < n) : natF (setW o p ((x * y + o p + c) % 4294967296)) n + 4294967296 ^ (p + 1) * ((x * y + o p + c) / 4294967296) = natF o n + 4294967296 ^ p * (x * y + c) := by
  have h1 := natF_set o n p ((x * y + o p + c) % 4294967296) hp
  obtain ⟨t, ht⟩ : ∃ t, x * y + o p + c = t := ⟨_, rfl⟩
  rw [ht] at h1 ⊢
  have e0 : natF (setW o p (t % 4294967296)) n = natF (fun j => if j = p then t % 4294967296 else o j) n := rfl
  rw [e0, Nat.pow_succ]
  have hd : t = 4294967296 * (t / 4294967296) + t % 4294967296 := (Nat.div_add_mod t 4294967296).symm
  have h3 : 4294967296 ^ p * t = 4294967296 ^ p * 4294967296 * (t / 4294967296) + 4294967296 ^ p * (t % 4294967296) := by
    conv => lhs; rw [hd]
    rw [Nat.mul_add, Nat.mul_assoc]
  have h4 : 4294967296 ^ p * t = 4294967296 ^ p * (x * y + c) + 4294967296 ^ p * o p := by
    rw [← ht, ← Nat.mul_add]
    congr 1
    omega
  omega
/-- The words stay words, and the carry too. -/
theorem times_lt (x y u c : Nat) (hx : x < 4294967296) (hy : y < 4294967296) (hu : u < 4294967296) (hc : c < 4294967296) : x * y + u + c < 18446744073709551616 ∧ (x * y + u + c) / 4294967296 < 4294967296 := by
  have h : x * y ≤ 4294967295 * 4294967295 := Nat.mul_le_mul (by omega) (by omega)
  omega
/-- Ahead of the k-th round of the inner loop, in the i-th of the outer one. -/
def XInv (b : List Nat) (x i n V : Nat) (o : Nat → Nat) (k c : Nat) : Prop := natF o n + 4294967296 ^ (i + k) * c = V + 4294967296 ^ i * (x * natL (b.take k)) ∧ c < 4294967296 ∧ (∀ j, o j < 4294967296) ∧ (∀ j, i + b.length ≤ j → o j = 0)
theorem XInv.zero (b : List Nat) (x i n : Nat) (o : Nat → Nat) (hlt : ∀ j, o j < 4294967296) (hz : ∀ j, i + b.length ≤ j → o j = 0) : XInv b x i n (natF o n) o 0 0 :=
  ⟨by show natF o n + _ * 0 = natF o n + _ * (x * 0); simp, by decide, hlt, hz⟩
theorem XInv.step {b : List Nat} {x i n V : Nat} {o : Nat → Nat} {k c : Nat} (h : XInv b x i n V o k c) (hk : k < b.length) (hn : i + b.length ≤ n) (hx : x < 4294967296) (hb : DigL b) : XInv b x i n V (setW o (i + k) ((x * b.getD k 0 + o (i + k) + c) % 4294967296)) (k + 1) ((x * b.getD k 0 + o (i + k) + c) / 4294967296) := by
  obtain ⟨h1, h2, h3, h4⟩ := h
  refine ⟨?_, (times_lt x _ _ c hx (hb.get k) (h3 _) h2).2, fun j => ?_, fun j hj => ?_⟩
  · have hs := times_step o n (i + k) x (b.getD k 0) c (by omega)
    have e : i + (k + 1) = i + k + 1 := by omega
    rw [e, hs, natL_take_succ b k hk]
    rw [Nat.mul_add (4294967296 ^ (i + k))]
    have e3 : 4294967296 ^ i * (x * (natL (b.take k) + 4294967296 ^ k * b.getD k 0)) = 4294967296 ^ i * (x * natL (b.take k)) + 4294967296 ^ (i + k) * (x * b.getD k 0) := by
      rw [Nat.mul_add x, Nat.mul_add (4294967296 ^ i), Nat.pow_add, ← Nat.mul_assoc x, Nat.mul_comm x (4294967296 ^ k), Nat.mul_assoc (4294967296 ^ k), ← Nat.mul_assoc (4294967296 ^ i) (4294967296 ^ k)]
    rw [e3]
    omega
  · unfold setW
    split
    · exact Nat.mod_lt _ (by decide)
    · exact h3 j
  · unfold setW
    rw [if_neg (by omega)]
    exact h4 j hj
/-- Behind the inner loop the carry is laid too: a row more. -/
theorem XInv.row {b : List Nat} {x i n V : Nat} {o : Nat → Nat} {c : Nat} (h : XInv b x i n V o b.length c) (hn : i + b.length < n) : natF (setW o (i + b.length) c) n = V + 4294967296 ^ i * (x * natL b) ∧ (∀ j, setW o (i + b.length) c j < 4294967296) ∧ (∀ j, i + 1 + b.length ≤ j → setW o (i + b.length) c j = 0) := by
  obtain ⟨h1, h2, h3, h4⟩ := h
  rw [List.take_length] at h1
  have hs := natF_set o n (i + b.length) c hn
  rw [h4 _ (Nat.le_refl _), Nat.mul_zero, Nat.add_zero] at hs
  refine ⟨?_, fun j => ?_, fun j hj => ?_⟩
  · have e0 : natF (setW o (i + b.length) c) n = natF (fun j => if j = i + b.length then c else o j) n := rfl
    rw [e0, hs]
    exact h1
  · unfold setW
    split
    · exact h2
    · exact h3 j
  · unfold setW
    rw [if_neg (by omega)]
    exact h4 j (by omega)
end Go.Proofs.YteidllapjokhlaaDoor

namespace Go.Proofs.YteidllapjokhlaaDoor
open Go.RowKit Go.IntWalk

end Go.Proofs.YteidllapjokhlaaDoor
