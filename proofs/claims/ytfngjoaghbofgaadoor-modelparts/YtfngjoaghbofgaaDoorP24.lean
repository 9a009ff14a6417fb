
/- matrix: checkSquare, Mean, Equal; the document's SameList; the law's alike and of. (Written by mkmxj.py.) -/
import Derived.Test.YtfngjoaghbofgaaDoorP23
import Derived.Test.YtfngjoaghbofgaaDoorP17
namespace Go.Proofs.YtfngjoaghbofgaaDoor
open Go.RowKit Go.IntWalk

/-- A quotient's bits; where there is none, a NaN that is drawn. -/
def quF (x y : Nat) (w : World) : Nat := (floatBits .quo .f64 x y).getD (nanF x y w)
def quG (x y : Nat) (w : World) : World := if (floatBits .quo .f64 x y).isSome then w else w.drew
theorem qu_run (x y : Nat) (w : World) : (binOp .quo 46 (.float .f64 x) (.float .f64 y)).run Tryd.prog w = .ok (.float .f64 (quF x y w)) (quG x y w) := by
  unfold quF quG
  cases h : floatBits .quo .f64 x y with
  | none =>
    have := nan_run .quo x y (by simp) h 46 w
    simpa using this
  | some z =>
    simp only [Option.getD_some, Option.isSome_some, if_true]
    exact run_float_arith w _ _ .f64 x y z h
theorem bl_qu {B : Nat} {w W : World} (h : Below B w W) (x y : Nat) : Below B w (quG x y W) := by
  unfold quG
  split
  · exact h
  · exact h.drew
theorem quF_lt (x y : Nat) (w : World) : quF x y w < 18446744073709551616 := by
  unfold quF
  cases h : floatBits .quo .f64 x y with
  | none => exact (nanF_nan x y w).1
  | some z =>
    have h1 : z < 2 ^ FloatKind.f64.format.width := Ieee.Format.div_lt _ h
    have h2 : (2 : Nat) ^ FloatKind.f64.format.width = 18446744073709551616 := by decide
    rw [h2] at h1
    exact h1
/-- What Mean's closure answers. -/
def MeanP (f : Nat → Nat) (c i j x : Nat) : Prop := (i = j ∧ x = f (i * c + i)) ∨ (i ≠ j ∧ ∃ W W', x = quF (arF .add (f (i * c + j)) (f (j * c + i)) W) 4611686018427387904 W')
end Go.Proofs.YtfngjoaghbofgaaDoor

namespace Go.Proofs.YtfngjoaghbofgaaDoor
open Go.RowKit Go.IntWalk

set_option maxHeartbeats 400000 in
theorem bitsM_any (x : Nat) (w : World) (hx : x < 18446744073709551616) :
    Calls Tryd.prog 68 #[.float .f64 x] w fun e w' => e = .returned (.int .u64 (canonOf x)) ∧ w' = w := by
  have h1 := f64bits
  have ho := order_self x hx
  by_cases h : 9218868437227405312 < x % 9223372036854775808
  · rw [decide_eq_true h] at ho
    have H : Hid (9218868437227405312 < x % 9223372036854775808) := h
    clear h
    go_enter Tryd.func68, Tryd.ntmps68
    go_wp2
    go_ret
    exact ⟨ret_int (by unfold canonOf; rw [if_pos H.out]; rfl), rfl⟩
  · rw [decide_eq_false h] at ho
    have H : Hid (¬ 9218868437227405312 < x % 9223372036854775808) := h
    clear h
    go_enter Tryd.func68, Tryd.ntmps68
    go_wp2
    go_ret
    exact ⟨ret_int (by unfold canonOf; rw [if_neg H.out]), rfl⟩
theorem getD_map (n : Nat) (f : Nat → Nat) (k : Nat) (hk : k < n) : ((List.range n).map f).getD k 0 = f k := by
  rw [List.getD_eq_getElem?_getD, List.getElem?_map, List.getElem?_range hk]
  rfl
theorem FnM.toFl {w : World} {sa : Option Addr} {n cap : Nat} {xs : List Nat} (hl : xs.length = n) (h : FnM w sa n cap (fun j => xs.getD j 0)) : FlM w sa n cap xs := by
  have h1 := h.fl
  have e : (List.range n).map (fun j => xs.getD j 0) = xs := by
    apply List.ext_getElem?
    intro i
    by_cases hi : i < n
    · rw [List.getElem?_map, List.getElem?_range hi, List.getElem?_eq_getElem (by omega)]
      simp [List.getD_eq_getElem?_getD, List.getElem?_eq_getElem (show i < xs.length by omega)]
    · rw [List.getElem?_eq_none (by simp; omega), List.getElem?_eq_none (by omega)]
  rw [e] at h1
  exact h1
theorem sto_fl {W : World} {b : Nat} {r c r0 c0 : Int} {sa sb s0 : Option Addr} {n cap m k n0 k0 : Nat} {xs : List Nat} (h : FlM W sb m k xs) (hb : W.heap[b]? = some (MBox r0 c0 s0 n0 k0)) : FlM (StoM W b r c sa n cap) sb m k xs := FnM.toFl h.1 (StoM.fn h.fn hb)
end Go.Proofs.YtfngjoaghbofgaaDoor

namespace Go.Proofs.YtfngjoaghbofgaaDoor
open Go.RowKit Go.IntWalk

theorem canon_val {x v : Nat} (h : canonOf x = v) (hv : v ≠ 9221120237041090561) : x = v := by
  unfold canonOf at h
  split at h
  · exact absurd h.symm hv
  · exact h
theorem finF_of {n : Nat} {o : Nat → Nat} (h : ∀ k, k < n → (expOf (o k) == 2047) = false) : finF n o = true := by
  unfold finF finM
  rw [List.all_eq_true]
  intro x hx
  obtain ⟨k, hk, rfl⟩ := List.mem_map.1 hx
  rw [h k (List.mem_range.1 hk)]
  rfl
/-- Four numbers, two numbers as a function. -/
def q4 (a b c d : Nat) : Nat → Nat | 0 => a | 1 => b | 2 => c | _ => d
def q2 (a b : Nat) : Nat → Nat | 0 => a | _ => b
def L4 (a b c d : Nat) : Obj := .cells #[.float .f64 a, .float .f64 b, .float .f64 c, .float .f64 d] 46
def L2 (a b : Nat) : Obj := .cells #[.float .f64 a, .float .f64 b] 46
theorem l4_fn {W : World} {b x y z t : Nat} (h : W.heap[b]? = some (L4 x y z t)) (hx : x < 18446744073709551616) (hy : y < 18446744073709551616) (hz : z < 18446744073709551616) (ht : t < 18446744073709551616) : FnM W (some ⟨b, 0, none⟩) 4 4 (q4 x y z t) := by
  refine Or.inr ⟨b, 0, rfl, (Array.getElem?_eq_some_iff.1 h).1, Nat.le_refl _, by decide, fun j hj => ?_⟩
  unfold L4 at h
  match j, hj with
  | 0, _ => exact ⟨by simp [World.cell?, h, q4], hx⟩
  | 1, _ => exact ⟨by simp [World.cell?, h, q4], hy⟩
  | 2, _ => exact ⟨by simp [World.cell?, h, q4], hz⟩
  | 3, _ => exact ⟨by simp [World.cell?, h, q4], ht⟩
theorem l2_fn {W : World} {b x y : Nat} (h : W.heap[b]? = some (L2 x y)) (hx : x < 18446744073709551616) (hy : y < 18446744073709551616) : FnM W (some ⟨b, 0, none⟩) 2 2 (q2 x y) := by
  refine Or.inr ⟨b, 0, rfl, (Array.getElem?_eq_some_iff.1 h).1, Nat.le_refl _, by decide, fun j hj => ?_⟩
  unfold L2 at h
  match j, hj with
  | 0, _ => exact ⟨by simp [World.cell?, h, q2], hx⟩
  | 1, _ => exact ⟨by simp [World.cell?, h, q2], hy⟩
theorem fn_cell {W : World} {g n cap : Nat} {o : Nat → Nat} (h : FnM W (some ⟨g, 0, none⟩) n cap o) (k : Nat) (hk : k < n) : W.cell? ⟨g, k, none⟩ = some (.float .f64 (o k)) ∧ g < W.heap.size := by
  rcases h with ⟨h1, _, _⟩ | ⟨b, off, h1, h2, _, _, h5⟩
  · cases h1
  · cases h1
    have := (h5 k hk).1
    rw [Nat.zero_add] at this
    exact ⟨this, h2⟩
theorem ex_dots : dotM (fun k => q4 4607182418800017408 4611686018427387904 4613937818241073152 4616189618054758400 (0 * 2 + k)) (fun k => q4 0 4607182418800017408 4607182418800017408 0 (k * 2 + 0)) 2 = 4611686018427387904 ∧ dotM (fun k => q4 4607182418800017408 4611686018427387904 4613937818241073152 4616189618054758400 (0 * 2 + k)) (fun k => q4 0 4607182418800017408 4607182418800017408 0 (k * 2 + 1)) 2 = 4607182418800017408 ∧ dotM (fun k => q4 4607182418800017408 4611686018427387904 4613937818241073152 4616189618054758400 (1 * 2 + k)) (fun k => q4 0 4607182418800017408 4607182418800017408 0 (k * 2 + 0)) 2 = 4616189618054758400 ∧ dotM (fun k => q4 4607182418800017408 4611686018427387904 4613937818241073152 4616189618054758400 (1 * 2 + k)) (fun k => q4 0 4607182418800017408 4607182418800017408 0 (k * 2 + 1)) 2 = 4613937818241073152 := by decide +kernel
theorem ex_sand : dotM (fun k => q2 4607182418800017408 4611686018427387904 (0 * 2 + k)) (fun k => q4 4607182418800017408 0 0 4607182418800017408 (k * 2 + 0)) 2 = 4607182418800017408 ∧ dotM (fun k => q2 4607182418800017408 4611686018427387904 (0 * 2 + k)) (fun k => q4 4607182418800017408 0 0 4607182418800017408 (k * 2 + 1)) 2 = 4611686018427387904 ∧ dotM (fun k => q2 4607182418800017408 4611686018427387904 (0 * 2 + k)) (fun k => q2 4607182418800017408 4611686018427387904 (0 * 2 + k)) 2 = 4617315517961601024 := by decide +kernel
end Go.Proofs.YtfngjoaghbofgaaDoor
