
/- matrix: checkSquare, Mean, Equal; the document's SameList; the law's alike and of. (Written by mkmxj.py.) -/
import Derived.Test.YtcaelnpddipmhaaP21
import Derived.Test.YtcaelnpddipmhaaP15
namespace Go.Proofs.Ytcaelnpddipmhaa
open Go.RowKit Go.IntWalk

/-- A quotient's bits; where there is none, a NaN that is drawn. -/
def quF (x y : Nat) (w : World) : Nat := (floatBits .quo .f64 x y).getD (nanF x y w)
def quG (x y : Nat) (w : World) : World := if (floatBits .quo .f64 x y).isSome then w else w.drew
theorem qu_run (x y : Nat) (w : World) : (binOp .quo 23 (.float .f64 x) (.float .f64 y)).run Try.prog w = .ok (.float .f64 (quF x y w)) (quG x y w) := by
  unfold quF quG
  cases h : floatBits .quo .f64 x y with
  | none =>
    have := nan_run .quo x y (by simp) h 23 w
    simpa using this
  | some z =>
    simp only [Option.getD_some, Option.isSome_some, if_true]
    exact run_float_arith w _ _ .f64 x y z h
theorem bl_qu {B : Nat} {w W : World} (h : Below B w W) (x y : Nat) : Below B w (quG x y W) := by
  unfold quG
  split
  · exact h
  · exact h.drew
theorem quF_lt (x y : Nat) (w : World) : quF x y w < 18446744073709551616 := by
  unfold quF
  cases h : floatBits .quo .f64 x y with
  | none => exact (nanF_nan x y w).1
  | some z =>
    have h1 : z < 2 ^ FloatKind.f64.format.width := Ieee.Format.div_lt _ h
    have h2 : (2 : Nat) ^ FloatKind.f64.format.width = 18446744073709551616 := by decide
    rw [h2] at h1
    exact h1
/-- What Mean's closure answers. -/
def MeanP (f : Nat → Nat) (c i j x : Nat) : Prop := (i = j ∧ x = f (i * c + i)) ∨ (i ≠ j ∧ ∃ W W', x = quF (arF .add (f (i * c + j)) (f (j * c + i)) W) 4611686018427387904 W')
end Go.Proofs.Ytcaelnpddipmhaa

namespace Go.Proofs.Ytcaelnpddipmhaa
open Go.RowKit Go.IntWalk

set_option maxHeartbeats 400000 in
theorem bitsM_any (x : Nat) (w : World) (hx : x < 18446744073709551616) :
    Calls Try.prog 54 #[.float .f64 x] w fun e w' => e = .returned (.int .u64 (canonOf x)) ∧ w' = w := by
  have h1 := f64bits
  have ho := order_self x hx
  by_cases h : 9218868437227405312 < x % 9223372036854775808
  · rw [decide_eq_true h] at ho
    have H : Hid (9218868437227405312 < x % 9223372036854775808) := h
    clear h
    go_enter Try.func54, Try.ntmps54
    go_wp2
    go_ret
    exact ⟨ret_int (by unfold canonOf; rw [if_pos H.out]; rfl), rfl⟩
  · rw [decide_eq_false h] at ho
    have H : Hid (¬ 9218868437227405312 < x % 9223372036854775808) := h
    clear h
    go_enter Try.func54, Try.ntmps54
    go_wp2
    go_ret
    exact ⟨ret_int (by unfold canonOf; rw [if_neg H.out]), rfl⟩
set_option maxHeartbeats 400000 in
theorem rsameM_any (x y : Nat) (w : World) (hx : x < 18446744073709551616) (hy : y < 18446744073709551616) :
    Calls Try.prog 36 #[.float .f64 x, .float .f64 y] w fun e w' => e = .returned (.bool (canonOf x == canonOf y)) ∧ w' = w := by
  go_enter Try.func36, Try.ntmps36
  go_wp2_with fail
  refine (bitsM_any x _ hx).mono ?_
  rintro e w' ⟨rfl, rfl⟩
  go_wp2_with fail
  refine (bitsM_any y _ hy).mono ?_
  rintro e w' ⟨rfl, rfl⟩
  go_wp2_with fail
  go_ret
  exact ⟨ret_bool (nat_beq _ _), rfl⟩
set_option maxHeartbeats 1000000 in
theorem SameL_yes (sa sb : Option Addr) (n ca cb : Nat) (f g : Nat → Nat) (w : World) (ha : FnM w sa n ca f) (hb : FnM w sb n cb g) (he : ∀ k, k < n → canonOf (f k) = canonOf (g k)) :
    Calls Try.prog 22 #[.slice sa n ca, .slice sb n cb] w fun e w' => e = .returned (.bool true) ∧ Below w.heap.size w w' := by
  have hne : ((n : Int) != (n : Int)) = false := by simp
  have HA := hid ha
  have HB := hid hb
  have HE := hid he
  clear ha hb he
  go_enter Try.func22, Try.ntmps22
  go_wp2_with fail
  go_loopw [13] (fun iv wr => ∃ k : Nat, k ≤ n ∧ iv = .int .i64 k ∧ Hid (Below w.heap.size w wr)) (fun iv _ => n - (intOf iv).toNat)
  case atStart => exact ⟨0, Nat.zero_le _, rfl, Below.refl _ _⟩
  case round =>
    obtain ⟨k, hk, rfl, HBW⟩ := hrel
    by_cases hlt : k < n
    · rcases HA.out with ⟨_, h2, _⟩ | ⟨b, off, rfl, q1, _, _, q4⟩
      · omega
      rcases HB.out with ⟨_, h2, _⟩ | ⟨b2, off2, rfl, q5, _, _, q8⟩
      · omega
      have HKS : Hid (∀ W, Hid (Below w.heap.size w W) → (W.cell? ⟨b, off + k, none⟩ = some (.float .f64 (f k)) ∧ W.cell? ⟨b2, off2 + k, none⟩ = some (.float .f64 (g k))) ∧ Hid (Below w.heap.size w W)) := fun W hW => ⟨⟨(hW.out.cell (p := ⟨b, off + k, none⟩) q1).trans (q4 k hlt).1, (hW.out.cell (p := ⟨b2, off2 + k, none⟩) q5).trans (q8 k hlt).1⟩, hW⟩
      have HSM : Hid (∀ W, Calls Try.prog 36 #[.float .f64 (f k), .float .f64 (g k)] W fun e w' => e = .returned (.bool true) ∧ w' = W) := fun W => by
        have := rsameM_any (f k) (g k) W (q4 k hlt).2 (q8 k hlt).2
        rw [HE.out k hlt] at this
        simpa using this
      obtain ⟨x, hxx⟩ : ∃ x, Hid (f k = x) := ⟨_, rfl⟩
      obtain ⟨y, hyy⟩ : ∃ y, Hid (g k = y) := ⟨_, rfl⟩
      rw [hxx.out, hyy.out] at HKS HSM
      have hkI : (k : Int) < (n : Int) := by omega
      have hk0 : (0 : Int) ≤ (k : Int) := by omega
      have HQ0 : Hid (Below w.heap.size w wr.drew) := HBW.out.drew
      have HK := hid hlt
      clear q1 q4 q5 q8 hlt
      go_wp2_with fail
      refine wp_region_held_drew (S := fun W => (W.cell? ⟨b, off + k, none⟩ = some (.float .f64 x) ∧ W.cell? ⟨b2, off2 + k, none⟩ = some (.float .f64 y)) ∧ Hid (Below w.heap.size w W)) (by kernel_rfl) (HKS.out _ HQ0) (fun hHeld => ?_)
      refine take_at 0 16 (.slice (some ⟨b, off, none⟩) n ca) rfl rfl (by kernel_rfl) (by kernel_rfl) (by kernel_rfl) (fun _ _ _ h => h) (Or.inl ⟨by rfl, fun w hSw => by (try dsimp only at hSw); go_simp⟩) (by assumption) ?_
      simp only [Act.put, List.setIfInBounds_toArray, List.set_cons_zero, List.set_cons_succ]
      refine take_at 1 17 (.int .i64 k) rfl rfl (by kernel_rfl) (by kernel_rfl) (by kernel_rfl) (fun _ _ _ h => h) (Or.inl ⟨by rfl, fun w hSw => by (try dsimp only at hSw); go_simp⟩) (by assumption) ?_
      simp only [Act.put, List.setIfInBounds_toArray, List.set_cons_zero, List.set_cons_succ]
      refine take_at 2 18 (.pointer (some ⟨b, off + k, none⟩)) rfl rfl (by kernel_rfl) (by kernel_rfl) (by kernel_rfl) (fun _ _ _ h => h) (Or.inl ⟨by rfl, fun w hSw => by (try dsimp only at hSw); go_simp⟩) (by assumption) ?_
      simp only [Act.put, List.setIfInBounds_toArray, List.set_cons_zero, List.set_cons_succ]
      refine take_at 3 19 (.float .f64 x) rfl rfl (by kernel_rfl) (by kernel_rfl) (by kernel_rfl) (fun _ _ _ h => h) (Or.inl ⟨by rfl, fun w hSw => by (try dsimp only at hSw); go_simp⟩) (by assumption) ?_
      simp only [Act.put, List.setIfInBounds_toArray, List.set_cons_zero, List.set_cons_succ]
      refine take_at 4 20 (.slice (some ⟨b2, off2, none⟩) n cb) rfl rfl (by kernel_rfl) (by kernel_rfl) (by kernel_rfl) (fun _ _ _ h => h) (Or.inl ⟨by rfl, fun w hSw => by (try dsimp only at hSw); go_simp⟩) (by assumption) ?_
      simp only [Act.put, List.setIfInBounds_toArray, List.set_cons_zero, List.set_cons_succ]
      refine take_at 5 21 (.int .i64 k) rfl rfl (by kernel_rfl) (by kernel_rfl) (by kernel_rfl) (fun _ _ _ h => h) (Or.inl ⟨by rfl, fun w hSw => by (try dsimp only at hSw); go_simp⟩) (by assumption) ?_
      simp only [Act.put, List.setIfInBounds_toArray, List.set_cons_zero, List.set_cons_succ]
      refine take_at 6 22 (.pointer (some ⟨b2, off2 + k, none⟩)) rfl rfl (by kernel_rfl) (by kernel_rfl) (by kernel_rfl) (fun _ _ _ h => h) (Or.inl ⟨by rfl, fun w hSw => by (try dsimp only at hSw); go_simp⟩) (by assumption) ?_
      simp only [Act.put, List.setIfInBounds_toArray, List.set_cons_zero, List.set_cons_succ]
      refine take_at 7 23 (.float .f64 y) rfl rfl (by kernel_rfl) (by kernel_rfl) (by kernel_rfl) (fun _ _ _ h => h) (Or.inl ⟨by rfl, fun w hSw => by (try dsimp only at hSw); go_simp⟩) (by assumption) ?_
      simp only [Act.put, List.setIfInBounds_toArray, List.set_cons_zero, List.set_cons_succ]
      refine wpAnyH_ready (rs := [8]) (by kernel_rfl) (by simp) ?_
      refine AllReadyH.cons (o := _) rfl (fun K hK => ?_) AllReadyH.nil
      go_simp
      refine (HSM.out _).mono ?_
      rintro e u1 ⟨rfl, rfl⟩
      go_wp2_with fail
      refine hK.out _ _ (HKS.out _ HQ0) (fun hHeld1 => ?_)
      clear hK K
      try simp only [Act.put, List.setIfInBounds_toArray, List.set_cons_zero, List.set_cons_succ]
      refine take_at 9 25 (.bool false) rfl rfl (by kernel_rfl) (by kernel_rfl) (by kernel_rfl) (fun _ _ _ h => h) (Or.inl ⟨by rfl, fun w hSw => by (try dsimp only at hSw); go_simp⟩) (by assumption) ?_
      simp only [Act.put, List.setIfInBounds_toArray, List.set_cons_zero, List.set_cons_succ]
      refine wpAnyH_done (by kernel_rfl) ?_ _
      go_wp2_with fail
      have hk1 := HK.out
      refine ⟨⟨k + 1, by omega, by go_num, HQ0⟩, ?_⟩
      simp [intOf]; omega
    · go_wp2_with fail
      go_ret
      exact ⟨rfl, HBW.out⟩
theorem getD_map (n : Nat) (f : Nat → Nat) (k : Nat) (hk : k < n) : ((List.range n).map f).getD k 0 = f k := by
  rw [List.getD_eq_getElem?_getD, List.getElem?_map, List.getElem?_range hk]
  rfl
theorem FnM.toFl {w : World} {sa : Option Addr} {n cap : Nat} {xs : List Nat} (hl : xs.length = n) (h : FnM w sa n cap (fun j => xs.getD j 0)) : FlM w sa n cap xs := by
  have h1 := h.fl
  have e : (List.range n).map (fun j => xs.getD j 0) = xs := by
    apply List.ext_getElem?
    intro i
    by_cases hi : i < n
    · rw [List.getElem?_map, List.getElem?_range hi, List.getElem?_eq_getElem (by omega)]
      simp [List.getD_eq_getElem?_getD, List.getElem?_eq_getElem (show i < xs.length by omega)]
    · rw [List.getElem?_eq_none (by simp; omega), List.getElem?_eq_none (by omega)]
  rw [e] at h1
  exact h1
theorem sto_fl {W : World} {b : Nat} {r c r0 c0 : Int} {sa sb s0 : Option Addr} {n cap m k n0 k0 : Nat} {xs : List Nat} (h : FlM W sb m k xs) (hb : W.heap[b]? = some (MBox r0 c0 s0 n0 k0)) : FlM (StoM W b r c sa n cap) sb m k xs := FnM.toFl h.1 (StoM.fn h.fn hb)
end Go.Proofs.Ytcaelnpddipmhaa
