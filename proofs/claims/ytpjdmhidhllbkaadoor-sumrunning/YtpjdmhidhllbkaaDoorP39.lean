
/- The document's exact numbers: Of. -/
import Derived.Test.YtpjdmhidhllbkaaDoorP32
import Derived.Test.YtpjdmhidhllbkaaDoorP31
import Derived.Test.YtpjdmhidhllbkaaDoorP33
import Derived.Test.YtpjdmhidhllbkaaDoorP27
namespace Go.Proofs.YtpjdmhidhllbkaaDoor
open Go.RowKit Go.IntWalk

theorem xof_val (x : Nat) (fx : x % 9223372036854775808 < 9218868437227405312) : ∃ k : Nat, pExp x = -1074 + (k : Int) ∧ sv x = sgnN (pNeg x) (pMant x) * 2 ^ k ∧ pMant x < 18446744073709551616 := by
  obtain ⟨k, k1, k2, k3, k4, k5, k6, k7⟩ := sv_parts x fx
  exact ⟨k, by omega, k1.symm, k7⟩
theorem two_blk (w : World) (A B : Obj) : ((w.alloc A).alloc B).heap[w.heap.size]? = some A ∧ ((w.alloc A).alloc B).heap[w.heap.size + 1]? = some B := by
  have h1 : (w.alloc A).heap.size = w.heap.size + 1 := by simp
  constructor
  · rw [((Below.refl (w.alloc A).heap.size (w.alloc A)).alloc (Nat.le_refl _) B).block w.heap.size (by omega)]
    exact new_blk w A _ rfl
  · exact new_blk (w.alloc A) B _ h1.symm
/-- What a number's words can't lie in: a block that holds none. -/
def NoWord (w : World) (b : Nat) : Prop := ∀ o n, w.cell? ⟨b, o, none⟩ ≠ some (.int .u32 n)
theorem noword_ex {w : World} {b : Nat} {q : Option Addr} {e : Int} {T : TypeId} (h : w.heap[b]? = some (.cells #[.pointer q, .int .i64 e] T)) : NoWord w b := by
  intro o n hc
  simp only [World.cell?, h] at hc
  match o, hc with
  | 0, hc => simp at hc
  | 1, hc => simp at hc
  | o + 2, hc => simp at hc
end Go.Proofs.YtpjdmhidhllbkaaDoor

namespace Go.Proofs.YtpjdmhidhllbkaaDoor
open Go.RowKit Go.IntWalk

theorem xcells_of {W : World} {b : Nat} {v0 v1 : Value} {T : TypeId} (h : W.heap[b]? = some (.cells #[v0, v1] T)) : W.cell? ⟨b, 0, none⟩ = some v0 ∧ W.cell? ⟨b, 1, none⟩ = some v1 ∧ (∀ o, W.frozen? ⟨b, o, none⟩ = false) :=
  ⟨by simp [World.cell?, h], by simp [World.cell?, h], fun o => by simp [World.frozen?, h]⟩
end Go.Proofs.YtpjdmhidhllbkaaDoor

namespace Go.Proofs.YtpjdmhidhllbkaaDoor
open Go.RowKit Go.IntWalk

theorem three_blk (w : World) (A B C : Obj) : (((w.alloc A).alloc B).alloc C).heap[w.heap.size]? = some A ∧ (((w.alloc A).alloc B).alloc C).heap[w.heap.size + 1]? = some B ∧ (((w.alloc A).alloc B).alloc C).heap[w.heap.size + 2]? = some C := by
  obtain ⟨h1, h2⟩ := two_blk w A B
  have hs : ((w.alloc A).alloc B).heap.size = w.heap.size + 2 := by simp
  have hb := ((Below.refl ((w.alloc A).alloc B).heap.size ((w.alloc A).alloc B)).alloc (Nat.le_refl _) C)
  refine ⟨(hb.block _ (by omega)).trans h1, (hb.block _ (by omega)).trans h2, new_blk _ _ _ hs.symm⟩
end Go.Proofs.YtpjdmhidhllbkaaDoor

namespace Go.Proofs.YtpjdmhidhllbkaaDoor
open Go.RowKit Go.IntWalk

end Go.Proofs.YtpjdmhidhllbkaaDoor

namespace Go.Proofs.YtpjdmhidhllbkaaDoor
open Go.RowKit Go.IntWalk

theorem dr_size (W : World) : W.drew.heap.size = W.heap.size := rfl
theorem al_size (W : World) (o : Obj) : (W.alloc o).heap.size = W.heap.size + 1 := by simp
end Go.Proofs.YtpjdmhidhllbkaaDoor

namespace Go.Proofs.YtpjdmhidhllbkaaDoor
open Go.RowKit Go.IntWalk

theorem xsgn (v : Int) (k : Nat) : sgnZ (v * 2 ^ k) = sgnZ v := by
  have hp : (0 : Int) < 2 ^ k := Int.pow_pos (by decide)
  unfold sgnZ
  rcases Int.lt_trichotomy v 0 with h | h | h
  · have h2 : v * 2 ^ k < 0 := Int.mul_neg_of_neg_of_pos h hp
    rw [if_neg (by omega), if_pos h2, if_neg (by omega), if_pos h]
  · rw [h, Int.zero_mul]
  · have h2 : 0 < v * 2 ^ k := Int.mul_pos h hp
    rw [if_neg (by omega), if_neg (by omega), if_neg (by omega), if_neg (by omega)]
end Go.Proofs.YtpjdmhidhllbkaaDoor

namespace Go.Proofs.YtpjdmhidhllbkaaDoor
open Go.RowKit Go.IntWalk

/-- How often 2 goes into a number, and what is left. -/
theorem tz_words (L : List Nat) (k : Nat) (hD : DigL L) (hz : ∀ j, j < k → L.getD j 0 = 0) (h0 : L.getD k 0 ≠ 0) : ∃ m, natL L = 2 ^ (32 * k + tz32Of (L.getD k 0)) * m ∧ m % 2 = 1 := by
  have hk : (L.drop k).getD 0 0 = L.getD k 0 := by simp [List.getD]
  obtain ⟨m, h1, h2, _⟩ := natL_odd (L.drop k) (hD.drop k) (by rw [hk]; exact h0)
  refine ⟨m, ?_, h2⟩
  rw [natL_dropz L k hz, h1, hk, pow32, ← Nat.mul_assoc, ← Nat.pow_add]
end Go.Proofs.YtpjdmhidhllbkaaDoor

namespace Go.Proofs.YtpjdmhidhllbkaaDoor
open Go.RowKit Go.IntWalk

theorem mag_one (W : World) (b : Nat) (h : W.cell? ⟨b, 0, none⟩ = some (.int .u32 1)) : MagAt W (some ⟨b, 0, none⟩) [1] := by
  intro i hi
  have hi2 : i < 1 := hi
  have h0 : i = 0 := by omega
  subst h0
  exact ⟨b, 0, rfl, World.block_lt_of_cell? W _ h, h⟩
theorem dig_one : DigL [1] := fun d hd => by simp at hd; rw [hd]; decide
theorem can_one : CanL [1] := fun _ => by decide
theorem less_pow (n m : Nat) (hm : 1 ≤ m) : (2 ^ n * m - 1) / 2 ^ n + 1 = m := by
  have hp := Nat.two_pow_pos n
  have e : 2 ^ n * m - 1 = (2 ^ n - 1) + 2 ^ n * (m - 1) := by
    obtain ⟨k, rfl⟩ : ∃ k, m = k + 1 := ⟨m - 1, by omega⟩
    rw [Nat.add_sub_cancel, Nat.mul_add, Nat.mul_one]
    omega
  rw [e, Nat.add_mul_div_left _ _ hp, Nat.div_eq_of_lt (by omega)]
  omega
/-- An amount with another number's sign. -/
def sgM (v : Int) (m : Nat) : Int := if v < 0 then -(m : Int) else m
end Go.Proofs.YtpjdmhidhllbkaaDoor

namespace Go.Proofs.YtpjdmhidhllbkaaDoor
open Go.RowKit Go.IntWalk

theorem sgM_odd (v : Int) (m : Nat) (h : m % 2 = 1) : sgM v m % 2 = 1 := by unfold sgM; split <;> omega
theorem sgM_val (v : Int) (T m : Nat) (h : v.natAbs = 2 ^ T * m) : v = sgM v m * 2 ^ T := by
  have h2 : ((v.natAbs : Nat) : Int) = (m : Int) * 2 ^ T := by rw [h, Nat.mul_comm, Int.natCast_mul, Int.natCast_pow]; rfl
  unfold sgM
  split
  · rw [Int.neg_mul, ← h2]; omega
  · rw [← h2]; omega
end Go.Proofs.YtpjdmhidhllbkaaDoor

namespace Go.Proofs.YtpjdmhidhllbkaaDoor
open Go.RowKit Go.IntWalk

theorem natL_low (L : List Nat) : natL L % 4294967296 = L.getD 0 0 % 4294967296 := by
  match L with
  | [] => rfl
  | d :: t => show (d + 4294967296 * natL t) % 4294967296 = d % 4294967296; omega
end Go.Proofs.YtpjdmhidhllbkaaDoor
