
/- What dyad's left does. -/
import Derived.Test.YtilffgmekeeohaaDoorP33
import Derived.Test.YtilffgmekeeohaaDoorP6
import Derived.Test.YtilffgmekeeohaaDoorP27
import Derived.Deep.QuietTactic
namespace Go.Proofs.YtilffgmekeeohaaDoor
open Go.RowKit Go.IntWalk

/-- What holds ahead of the k-th round: the words told so far, and what is carried. -/
def DLInv (L : List Nat) (q s : Nat) (o : Nat → Nat) (c k : Nat) : Prop := natF o (q + k) + 4294967296 ^ (q + k) * c = natL (L.take k) * 2 ^ (32 * q + s) ∧ c < 2 ^ s ∧ ∀ j, o j < 4294967296
theorem DLInv.zero (L : List Nat) (q s : Nat) : DLInv L q s (fun _ => 0) 0 0 := ⟨by rw [natF_zero]; show 0 + _ * 0 = 0 * _; rw [Nat.mul_zero, Nat.zero_mul], Nat.two_pow_pos s, fun _ => (show 0 < 4294967296 by decide)⟩
theorem DLInv.step {L : List Nat} {q s : Nat} {o : Nat → Nat} {c k : Nat} (h : DLInv L q s o c k) (hk : k < L.length) (hs : s < 32) (hD : DigL L) : DLInv L q s (fun j => if j = q + k then (c + L.getD k 0 * 2 ^ s) % 4294967296 else o j) ((c + L.getD k 0 * 2 ^ s) / 4294967296) (k + 1) ∧ c + L.getD k 0 * 2 ^ s < 18446744073709551616 := by
  obtain ⟨h1, h2, h3⟩ := h
  obtain ⟨t1, t2, t3, t4⟩ := shl_lt (L.getD k 0) s (hD.get k) hs
  have hd := hD.get k
  have hp := Nat.two_pow_pos s
  have hb : c + L.getD k 0 * 2 ^ s < 4294967296 * 2 ^ s := by
    have : (L.getD k 0 + 1) * 2 ^ s ≤ 4294967296 * 2 ^ s := Nat.mul_le_mul_right _ hd
    rw [Nat.add_mul, Nat.one_mul] at this
    omega
  refine ⟨⟨?_, ?_, fun j => ?_⟩, ?_⟩
  · rw [natL_take_succ L k hk, Nat.add_mul, ← h1, ← Nat.add_assoc]
    show natF _ (q + k) + 4294967296 ^ (q + k) * (if q + k = q + k then _ else o (q + k)) + _ = _
    rw [if_pos rfl, natF_congr _ o (q + k) (fun j hj => if_neg (by omega)), Nat.pow_succ]
    obtain ⟨t, ht⟩ : ∃ t, L.getD k 0 * 2 ^ s = t := ⟨_, rfl⟩
    have e1 : 4294967296 ^ k * L.getD k 0 * 2 ^ (32 * q + s) = 4294967296 ^ (q + k) * t := by
      rw [← ht, pow32, pow32, Nat.mul_assoc, Nat.pow_add]
      rw [show L.getD k 0 * (2 ^ (32 * q) * 2 ^ s) = 2 ^ (32 * q) * (L.getD k 0 * 2 ^ s) by rw [Nat.mul_left_comm]]
      rw [← Nat.mul_assoc, ← Nat.pow_add]
      congr 2
      omega
    rw [e1, ht]
    have e := Nat.div_add_mod (c + t) 4294967296
    obtain ⟨Q, hQ⟩ : ∃ Q, (c + t) / 4294967296 = Q := ⟨_, rfl⟩
    obtain ⟨R, hR⟩ : ∃ R, (c + t) % 4294967296 = R := ⟨_, rfl⟩
    rw [hQ, hR] at e ⊢
    have e2 : 4294967296 ^ (q + k) * (4294967296 * Q + R) = 4294967296 ^ (q + k) * (c + t) := by rw [e]
    rw [Nat.mul_add, Nat.mul_add, ← Nat.mul_assoc] at e2
    omega
  · rw [Nat.div_lt_iff_lt_mul (by decide), Nat.mul_comm (2 ^ s)]
    exact hb
  · show (if j = q + k then _ else o j) < _
    split
    · exact Nat.mod_lt _ (by decide)
    · exact h3 j
  · have : 4294967296 * 2 ^ s ≤ 4294967296 * 4294967296 := Nat.mul_le_mul_left _ t4
    omega
theorem or_carry (c t s : Nat) (hs : s < 32) (hc : c < 2 ^ s) (ht : t < 18446744073709551616) (hm : t % 2 ^ s = 0) : bits .or .u64 (c : Int) (t : Int) = ((c + t : Nat) : Int) := by
  have h1 : (2 : Nat) ^ s ≤ 2 ^ 32 := Nat.pow_le_pow_right (by decide) (by omega)
  have h32 : (2 : Nat) ^ 32 = 4294967296 := by decide
  rw [u64_or_nat c t (by omega) ht]
  congr 1
  obtain ⟨d, hd⟩ : ∃ d, t = 2 ^ s * d := ⟨t / 2 ^ s, by have := Nat.div_add_mod t (2 ^ s); omega⟩
  rw [hd, Nat.or_comm, Nat.add_comm]
  exact (Nat.two_pow_add_eq_or_of_lt hc d).symm
end Go.Proofs.YtilffgmekeeohaaDoor

namespace Go.Proofs.YtilffgmekeeohaaDoor
open Go.RowKit Go.IntWalk

end Go.Proofs.YtilffgmekeeohaaDoor

namespace Go.Proofs.YtilffgmekeeohaaDoor
open Go.RowKit Go.IntWalk

theorem tz32_key (x a : Nat) (hx : x < 4294967296) (hx0 : x ≠ 0) (hlow : x &&& (4294967296 - x) = a) :
    IntKind.u32.wrap (bits BinOp.and IntKind.u32 (x : Int) (IntKind.u32.wrap (-(x : Int))) * 125613361) / 134217728 = ((a * 125613361 % 4294967296 / 134217728 : Nat) : Int) := by
  have e1 : IntKind.u32.wrap (-(x : Int)) = ((4294967296 - x : Nat) : Int) := by rw [IntKind.wrap_u32]; omega
  rw [e1, u32_and_nat x _ hx (by omega), hlow, IntKind.wrap_u32]
  omega
def tz32Of (m : Nat) : Nat := Lib.ctz 32 m
theorem tz32_spec (m : Nat) (h0 : m ≠ 0) (h : m < 4294967296) : tz32Of m < 32 ∧ ∃ k, m = 2 ^ tz32Of m * (2 * k + 1) := by
  obtain ⟨k, hk, hl⟩ := Lib.ctzFrom_spec 32 m (by omega) h
  have e : tz32Of m = Lib.ctzFrom 32 m := by simp [tz32Of, Lib.ctz, h0]
  rw [e]
  exact ⟨hl, k, hk⟩
/-- A dyad that may be. -/
def DyMay (neg : Bool) (L : List Nat) (e : Int) : Prop := (L = [] ∧ neg = false ∧ e = 0) ∨ (L ≠ [] ∧ natL L % 2 = 1 ∧ CanL L ∧ L.length ≤ 2048 ∧ -100000 ≤ e ∧ e ≤ 100000)
end Go.Proofs.YtilffgmekeeohaaDoor

namespace Go.Proofs.YtilffgmekeeohaaDoor
open Go.RowKit Go.IntWalk

end Go.Proofs.YtilffgmekeeohaaDoor

namespace Go.Proofs.YtilffgmekeeohaaDoor
open Go.RowKit Go.IntWalk

theorem natL_dropz (L : List Nat) : ∀ k, (∀ j, j < k → L.getD j 0 = 0) → natL L = 4294967296 ^ k * natL (L.drop k)
  | 0, _ => by rw [Nat.pow_zero, Nat.one_mul, List.drop_zero]
  | k + 1, h => by
    rw [natL_dropz L k (fun j hj => h j (by omega)), natL_drop L k, h k (by omega), Nat.zero_add, ← Nat.mul_assoc, ← Nat.pow_succ]
/-- A word's zeros at the end are the number's. -/
theorem natL_odd (D : List Nat) (hD : DigL D) (h0 : D.getD 0 0 ≠ 0) : ∃ m, natL D = 2 ^ tz32Of (D.getD 0 0) * m ∧ m % 2 = 1 ∧ natL D / 2 ^ tz32Of (D.getD 0 0) = m := by
  obtain ⟨hz, k, hk⟩ := tz32_spec (D.getD 0 0) h0 (hD.get 0)
  have e := natL_drop D 0
  rw [List.drop_zero] at e
  obtain ⟨z, hz'⟩ : ∃ z, tz32Of (D.getD 0 0) = z := ⟨_, rfl⟩
  rw [hz'] at hz hk ⊢
  obtain ⟨r, hr⟩ : ∃ r, natL (D.drop (0 + 1)) = r := ⟨_, rfl⟩
  rw [hr, hk] at e
  have h32 : (4294967296 : Nat) = 2 ^ z * (2 * 2 ^ (31 - z)) := by
    rw [show 2 * 2 ^ (31 - z) = 2 ^ (32 - z) by rw [show 32 - z = (31 - z) + 1 by omega, Nat.pow_succ, Nat.mul_comm], ← Nat.pow_add, show z + (32 - z) = 32 by omega]
  have e2 : natL D = 2 ^ z * (2 * k + 1 + 2 * (2 ^ (31 - z) * r)) := by
    have e3 : 4294967296 * r = 2 ^ z * (2 * (2 ^ (31 - z) * r)) := by
      conv => lhs; rw [h32]
      rw [Nat.mul_assoc, Nat.mul_assoc]
    rw [e, e3, ← Nat.mul_add]
  refine ⟨_, e2, by omega, ?_⟩
  rw [e2, Nat.mul_div_cancel_left _ (Nat.two_pow_pos z)]
/-- What is written of a number. -/
theorem written_val (neg : Bool) (L L' : List Nat) (k : Nat) (e : Int) (hD : DigL L) (hz : ∀ j, j < k → L.getD j 0 = 0) (h0 : L.getD k 0 ≠ 0) (d' : DigL L') (c' : CanL L') (hv : natL L' = natL (L.drop k) / 2 ^ tz32Of (L.getD k 0)) :
    natL L' % 2 = 1 ∧ DyV neg L' (e + 32 * k + tz32Of (L.getD k 0)) (intL neg L) e := by
  have hg : (L.drop k).getD 0 0 = L.getD k 0 := by simp [List.getD]
  obtain ⟨m, m1, m2, m3⟩ := natL_odd (L.drop k) (hD.drop k) (by rw [hg]; exact h0)
  rw [hg] at m1 m3
  rw [m3] at hv
  have e1 := natL_dropz L k hz
  obtain ⟨z, hz'⟩ : ∃ z, tz32Of (L.getD k 0) = z := ⟨_, rfl⟩
  rw [hz'] at m1 ⊢
  have e2 : natL L = natL L' * 2 ^ (32 * k + z) := by rw [e1, m1, hv, pow32, ← Nat.mul_assoc, ← Nat.pow_add, Nat.mul_comm]
  refine ⟨by rw [hv]; exact m2, d', c', Or.inr ⟨by rw [hv]; exact m2, 32 * k + z, ?_, by omega⟩⟩
  unfold intL
  have e3 : (natL L : Int) = (natL L' : Int) * 2 ^ (32 * k + z) := by rw [e2, Int.natCast_mul, Int.natCast_pow]; rfl
  cases neg
  · rw [if_neg (by decide), if_neg (by decide), e3]
  · rw [if_pos rfl, if_pos rfl, e3, Int.neg_mul]
theorem mag_drop {w : World} {b off : Nat} {L : List Nat} (h : MagAt w (some ⟨b, off, none⟩) L) (k : Nat) : MagAt w (some ⟨b, off + k, none⟩) (L.drop k) := by
  intro i hi
  rw [List.length_drop] at hi
  obtain ⟨b', off', e, hb, hc⟩ := h (k + i) (by omega)
  cases e
  refine ⟨b, off + k, rfl, hb, ?_⟩
  rw [Nat.add_assoc, hc]
  congr 3
  simp [List.getD]
/-- What is answered: a dyad that may be, in new memory, and no error. -/
def DyOut (z e : Int) (B : Nat) (r : Ending) (w' : World) : Prop := ∃ (neg : Bool) (L : List Nat) (a : Option Addr) (cap : Nat) (e' : Int), r = .returned (.tuple #[.agg #[.bool neg, .slice a L.length cap, .int .i64 e'], .int .i64 0]) ∧ L.length ≤ cap ∧ MagAt w' a L ∧ DyV neg L e' z e ∧ DyMay neg L e' ∧ (∀ p, a = some p → B ≤ p.block ∧ OwnRow w' p L.length)
theorem slice_eq {b o o' n n' c c' : Nat} (h1 : o = o') (h2 : n = n') (h3 : c = c') : Value.slice (some ⟨b, o, none⟩) n c = .slice (some ⟨b, o', none⟩) n' c' := by rw [h1, h2, h3]
end Go.Proofs.YtilffgmekeeohaaDoor
