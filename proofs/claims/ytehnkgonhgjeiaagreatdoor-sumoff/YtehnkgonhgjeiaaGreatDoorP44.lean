
/- sum's running and Left: the sums in order, of any numbers. -/
import Derived.RangeFuncNested
import Derived.RangeFuncBound
import Derived.RangeFuncCalls
import Derived.RangeFuncLeaves
import Derived.RangeFuncBox
import Derived.Shelf.Abstract
import Derived.Shelf.RegionOpen
import Derived.WalkKit
import Derived.OwnWalkIn
import Derived.TacticsInMore
import Derived.LoopNIn
import Derived.LoopIn
import Derived.Maps.AppendAt
import Derived.Test.YtehnkgonhgjeiaaGreatDoorP22
import Derived.Test.YtehnkgonhgjeiaaGreatDoorP23
import Derived.Test.YtehnkgonhgjeiaaGreatDoorP16
namespace Go.Proofs.YtehnkgonhgjeiaaGreatDoor
open Go.RowKit Go.IntWalk Go.Shelf

section
attribute [local go_sem] Oper.semAt_some

/-- The sum in order of canonical numbers. -/
def sumC (xs : List Nat) : Nat := xs.foldl (fun s x => caf .add s (canonOf x)) 0
theorem sumC_snoc (xs : List Nat) (x : Nat) : sumC (xs ++ [x]) = caf .add (sumC xs) (canonOf x) := by unfold sumC; rw [List.foldl_append]; rfl
theorem sumC_nil : sumC [] = 0 := rfl
theorem snoc_cases {α : Type} (xs : List α) : xs = [] ∨ ∃ ys y, xs = ys ++ [y] := by
  rcases List.eq_nil_or_concat xs with h | ⟨ys, y, h⟩
  · exact Or.inl h
  · exact Or.inr ⟨ys, y, by rw [h, List.concat_eq_append]⟩
theorem sumC_can (xs : List Nat) : canonOf (sumC xs) = sumC xs := by
  rcases snoc_cases xs with rfl | ⟨ys, y, rfl⟩
  · decide
  · rw [sumC_snoc, caf_can]
theorem sumC_lt (xs : List Nat) : sumC xs < 18446744073709551616 := by
  rcases snoc_cases xs with rfl | ⟨ys, y, rfl⟩
  · decide
  · rw [sumC_snoc]; exact caf_lt _ ok_a _ _
/-- The sums of the first beginnings. -/
def runs (xs : List Nat) (k : Nat) : List Nat := (List.range k).map fun j => sumC (xs.take (j + 1))
theorem runs_succ (xs : List Nat) (k : Nat) : runs xs (k + 1) = runs xs k ++ [sumC (xs.take (k + 1))] := by simp [runs, List.range_succ]
theorem runs_length (xs : List Nat) (k : Nat) : (runs xs k).length = k := by simp [runs]
theorem runs_last (xs : List Nat) (k : Nat) : (runs xs k).getLastD 0 = sumC (xs.take k) := by
  cases k with
  | zero => rfl
  | succ k => rw [runs_succ]; simp
/-- Numbers in a list, of any place. -/
def FltAt (n0 : Nat) (W : World) (sv : Value) (xs : List Nat) : Prop :=
  (sv = .slice none 0 0 ∧ xs = []) ∨ ∃ b off cap, sv = .slice (some ⟨b, off, none⟩) xs.length cap ∧ b < n0 ∧ ∀ j, j < xs.length → W.cell? ⟨b, off + j, none⟩ = some (.float .f64 (xs.getD j 0))
theorem FltAt.below {n0 : Nat} {A B : World} (h : Below n0 A B) {sv : Value} {xs : List Nat} : FltAt n0 A sv xs → FltAt n0 B sv xs
  | .inl e => .inl e
  | .inr ⟨b, off, cap, e, hb, hc⟩ => .inr ⟨b, off, cap, e, hb, fun j hj => (h.cell (p := ⟨b, off + j, none⟩) hb).trans (hc j hj)⟩

set_option maxRecDepth 100000 in
set_option maxHeartbeats 2000000 in
theorem running1 (l Bs n0 b off cap : Nat) (xs : List Nat) (hx : ∀ x ∈ xs, x < 18446744073709551616) (hreach : xs.length ≤ 17592186043904) (hb : b < n0) (n : Nat) (hn : 1 ≤ n) (J Jx : List Nat → World → Prop)
    (hJb : ∀ pre W W', J pre W → Below W.heap.size W W' → J pre W')
    (hY : ∀ pre x W, J pre W → pre.length < xs.length → YieldAt Fence.wide (n - 1) Tryz.prog l #[.float .f64 x] W fun e W' =>
      (e = .returned (.bool true) ∧ J (pre ++ [x]) W' ∧ Below n0 W W') ∨ (e = .returned (.bool false) ∧ Jx (pre ++ [x]) W'))
    (W : World) (hn0 : n0 ≤ W.heap.size) (hBs : W.cell? ⟨Bs, 0, none⟩ = some (.slice (some ⟨b, off, none⟩) xs.length cap)) (hc : ∀ j, j < xs.length → W.cell? ⟨b, off + j, none⟩ = some (.float .f64 (xs.getD j 0))) (h0 : J [] W) :
    CallsIn Fence.wide n Tryz.prog 103 #[.func (.yield l) #[] #[], .pointer (some ⟨Bs, 0, none⟩)] W fun e W' => (∃ v, e = .returned v) ∧
      ((∃ ys, ys = runs xs xs.length ∧ J ys W') ∨ (∃ pre, (∃ k, k ≤ xs.length ∧ pre = runs xs k) ∧ Jx pre W')) := by
  refine callsIn_of_wp Tryz.func103 rfl trivial ?_ rfl
  simp only [Tryz.ntmps103, List.size_toArray, List.length_cons, List.length_nil, Nat.reduceAdd, Nat.reduceSub, Array.replicate_succ, Array.replicate_zero, List.push_toArray, List.append_toArray, List.nil_append, List.cons_append]
  have r1 := ar_run .add ok_a
  have HX := hid hx
  have HC := hid hc
  have HJ := hid hJb
  have HYY := hid hY
  clear hx hc hJb hY
  obtain ⟨N, hN⟩ : ∃ N, Hid (xs.length = N) := ⟨_, rfl⟩
  rw [hN.out] at hBs hreach HC HYY
  gi_wp2
  gi_loopw [3, 8] (fun s i wr => ∃ k s0 : Nat, k ≤ N ∧ s = .float .f64 s0 ∧ i = .int .i64 k ∧ Hid (s0 < 18446744073709551616 ∧ canonOf s0 = sumC (xs.take k)) ∧ Hid (J (runs xs k) wr) ∧ Hid (Below n0 W wr)) (fun _ i _ => N - (intOf i).toNat)
  case atStart => exact ⟨0, 0, Nat.zero_le _, rfl, rfl, ⟨by decide, by rw [List.take_zero, sumC_nil]; decide⟩, h0, Below.refl _ _⟩
  case round =>
    obtain ⟨k, s0, hk, rfl, rfl, HS, HJs, HB⟩ := hrel
    by_cases hlt : k < N
    · have hck : wr.cell? ⟨b, off + k, none⟩ = some (.float .f64 (xs.getD k 0)) := (HB.out.cell (p := ⟨b, off + k, none⟩) hb).trans (HC.out k hlt)
      have HT : Hid (xs.take (k + 1) = xs.take k ++ [xs.getD k 0]) := take_next xs k (by rw [hN.out]; exact hlt)
      have HXK : Hid (xs.getD k 0 < 18446744073709551616) := HX.out _ (by rw [List.getD_eq_getElem?_getD, List.getElem?_eq_getElem (by rw [hN.out]; exact hlt)]; exact List.getElem_mem _)
      obtain ⟨x, hx⟩ : ∃ x, Hid (xs.getD k 0 = x) := ⟨_, rfl⟩
      rw [hx.out] at hck HT HXK
      have hkI : (k : Int) < (N : Int) := by omega
      have hk0 : (0 : Int) ≤ (k : Int) := by omega
      have HCN : Hid (∀ V, CallsIn Fence.wide (n - 1) Tryz.prog 58 #[.float .f64 (arF .add s0 x wr)] V fun r w' => r = .returned (.float .f64 (sumC (xs.take (k + 1)))) ∧ Below V.heap.size V w') := fun V => callsIn_wide.2 (by
        have := Canon_any (arF .add s0 x wr) V (arF_lt ok_a _ _ _)
        rw [canon_ar ok_a _ _ _ HS.out.1 HXK.out, HS.out.2, ← sumC_snoc, ← HT.out] at this
        exact this)
      have HRS : Hid (runs xs (k + 1) = runs xs k ++ [sumC (xs.take (k + 1))]) := runs_succ xs k
      have HSN : Hid (arF .add s0 x wr < 18446744073709551616 ∧ canonOf (arF .add s0 x wr) = sumC (xs.take (k + 1))) := ⟨arF_lt ok_a _ _ _, by rw [canon_ar ok_a _ _ _ HS.out.1 HXK.out, HS.out.2, ← sumC_snoc, ← HT.out]⟩
      obtain ⟨S, hS⟩ : ∃ S, Hid (sumC (xs.take (k + 1)) = S) := ⟨_, rfl⟩
      rw [hS.out] at HCN HRS
      gi_wp2_with fail
      refine ⟨trivial, (HCN.out _).mono ?_⟩
      rintro r w1 ⟨rfl, hb1⟩
      have hb1' : Below wr.heap.size wr w1 := by
        refine Below.trans (bl_ar (Below.refl _ _) .add s0 x) (hb1.mono ?_)
        rw [arG_heap]; exact Nat.le_refl _
      have HB1 : Hid (Below n0 W w1) := HB.out.trans (hb1'.mono (by have := HB.out.size; omega))
      have HJ1 : Hid (J (runs xs k) w1) := HJ.out _ _ _ HJs.out hb1'
      obtain ⟨fn, tmps, assign, body, hy, hR⟩ := HYY.out _ S w1 HJ1.out (by rw [runs_length]; exact hlt)
      have HRR := hid hR
      clear hb1 hb1' hR
      gi_wp2
      refine HRR.out.mono ?_
      rintro e W3 (⟨rfl, hJ3, hk3⟩ | ⟨rfl, hJx3⟩)
      · have HJ3 := hid hJ3
        have HB3 := hid (HB1.out.trans hk3)
        clear hJ3 hk3
        gi_wp2
        go_roundw
        case rel => exact ⟨k + 1, _, by omega, rfl, by simp, HSN, by rw [HRS.out]; exact HJ3, HB3⟩
        case measure => simp [intOf]; omega
      · gi_wp2
        refine bodyPost_ret (results_none rfl _ _ _) rfl ?_
        exact ⟨⟨_, rfl⟩, .inr ⟨_, ⟨k + 1, by rw [hN.out]; omega, HRS.out.symm⟩, hJx3⟩⟩
    · obtain rfl : k = N := by omega
      gi_wp2
      go_end0
      exact ⟨⟨_, rfl⟩, .inl ⟨_, rfl, by rw [hN.out]; exact HJs.out⟩⟩
set_option maxRecDepth 100000 in
set_option maxHeartbeats 1000000 in
theorem running1_nil (n l Bs : Nat) (J : List Nat → World → Prop) (W : World) (hBs : W.cell? ⟨Bs, 0, none⟩ = some (.slice none 0 0)) (h0 : J [] W) :
    CallsIn Fence.wide n Tryz.prog 103 #[.func (.yield l) #[] #[], .pointer (some ⟨Bs, 0, none⟩)] W fun e W' => (∃ v, e = .returned v) ∧ J [] W' := by
  refine callsIn_of_wp Tryz.func103 rfl trivial ?_ rfl
  simp only [Tryz.ntmps103, List.size_toArray, List.length_cons, List.length_nil, Nat.reduceAdd, Nat.reduceSub, Array.replicate_succ, Array.replicate_zero, List.push_toArray, List.append_toArray, List.nil_append, List.cons_append]
  gi_wp2
  gi_loopw [8] (fun i wr => i = .int .i64 0 ∧ J [] wr) (fun _ _ => 0)
  case atStart => exact ⟨rfl, h0⟩
  case round =>
    obtain ⟨rfl, hJs⟩ := hrel
    gi_wp2
    go_end0
    exact ⟨⟨_, rfl⟩, hJs⟩
set_option maxHeartbeats 1000000 in
theorem running_in (n : Nat) (a : Option Addr) (len cap : Nat) (w : World) :
    CallsIn Fence.wide n Tryz.prog 56 #[.slice a len cap] w fun e w' => e = .returned (.func (.func 103) #[] #[.pointer (some ⟨w.heap.size, 0, none⟩)]) ∧ w' = w.alloc (.cells #[.slice a len cap] 23) := by
  refine callsIn_of_wp Tryz.func56 rfl trivial ?_ rfl
  simp only [Tryz.ntmps56, List.size_toArray, List.length_cons, List.length_nil, Nat.reduceAdd, Nat.reduceSub, Array.replicate_succ, Array.replicate_zero, List.push_toArray, List.append_toArray, List.nil_append, List.cons_append]
  gi_wp2
  go_ret
  exact ⟨rfl, rfl⟩
theorem grown_of {W W' : World} (h : Below W.heap.size W W') : W.grownBy W' none := ⟨h.os, h.tape, h.output, h.size, fun k hk _ => h.block k hk⟩
theorem running_stops (n : Nat) (hn : 1 ≤ n) (Bs n0 : Nat) (sv : Value) (xs : List Nat) (hx : ∀ x ∈ xs, x < 18446744073709551616) (hreach : xs.length ≤ 17592186043904) (w : World) (hBs : Bs < w.heap.size) (hn0 : n0 ≤ w.heap.size) (hc : w.cell? ⟨Bs, 0, none⟩ = some sv) (hI : FltAt n0 w sv xs) :
    SeqStopsK Fence.wide n Tryz.prog 103 #[.pointer (some ⟨Bs, 0, none⟩)] (fun x : Nat => #[Value.float .f64 x]) (Below n0) (fun ys => ys = runs xs xs.length) (fun _ => True) xs.length w := fun l J Jx W hW hJ _ hY h0 => by
  have hc' := (hW.cell (p := ⟨Bs, 0, none⟩) hBs).trans hc
  rcases hI.below (hW.mono hn0) with ⟨rfl, rfl⟩ | ⟨b, off, cap, rfl, hb, hcs⟩
  · exact (running1_nil n l Bs J W hc' h0).mono fun e W' ⟨he, hj⟩ => ⟨he, .inl ⟨_, rfl, hj⟩⟩
  · refine (running1 l Bs n0 b off cap xs hx hreach hb n hn J Jx (fun pre A B h hb => hJ pre A B none h (grown_of hb) (fun r e => by cases e)) hY W (Nat.le_trans hn0 hW.size) hc' hcs h0).mono ?_
    rintro e W' ⟨he, ⟨ys, rfl, hj⟩ | ⟨pre, _, hj⟩⟩
    · exact ⟨he, .inl ⟨_, rfl, hj⟩⟩
    · exact ⟨he, .inr ⟨_, trivial, hj⟩⟩
theorem fstoreS (W : World) (a : Addr) (x : Nat) : (store a (.float .f64 x)).run Tryz.prog W = stored Tryz.prog W a (.float .f64 x) .plain := run_store _ _ _ _ _ rfl
set_option maxRecDepth 100000 in
set_option maxHeartbeats 2000000 in
/-- sum.Left of any numbers. -/
theorem Left_any (a : Option Addr) (len cap : Nat) (xs : List Nat) (hx : ∀ x ∈ xs, x < 18446744073709551616) (hreach : xs.length ≤ 17592186043904) (w : World) (hI : FltAt w.heap.size w (.slice a len cap) xs) :
    Calls Tryz.prog 13 #[.slice a len cap] w fun e W' => e = .returned (.float .f64 (sumC xs)) ∧ Below w.heap.size w W' := by
  refine (callsIn_wide (n := 3)).1 ?_
  have hst := fstoreS
  refine callsIn_of_wp_marks Tryz.func13 rfl trivial ?_ rfl
  simp only [Tryz.ntmps13, List.size_toArray, List.length_cons, List.length_nil, Nat.reduceAdd, Nat.reduceSub, Array.replicate_succ, Array.replicate_zero, List.push_toArray, List.append_toArray, List.nil_append, List.cons_append]
  gi_wp2_with (refine ⟨trivial, ?_⟩; gi_at_call 56; refine (running_in 2 _ _ _ _).mono ?_; rintro e w' ⟨rfl, rfl⟩)
  have bS := Boxed.new w 25 (.float .f64 0)
  have bN := Boxed.new (w.alloc (.cells #[.float .f64 0] 25)) 23 (.slice a len cap)
  rw [World.size_alloc] at bN
  have hB0 : Below w.heap.size w ((w.alloc (.cells #[.float .f64 0] 25)).alloc (.cells #[.slice a len cap] 23)) := ((Below.refl _ w).alloc (Nat.le_refl _) _).alloc (by simp) _
  refine wpIn_rangeFunc_ownG rfl (by decide) (gf := 103) (lb := #[.pointer (some ⟨w.heap.size + 1, 0, none⟩)]) rfl trivial (enters_of Tryz.func103 (by kernel_rfl) rfl)
    (running_stops 2 (by decide) (w.heap.size + 1) w.heap.size _ xs hx hreach _ (by simp) (by simp; omega) bN.cell (hI.below hB0)) belowK_t (belowK_b (by simp; omega)) (Below.refl _ _) (fun _ => rfl)
    (fun pre W => (W.cell? ⟨w.heap.size, 0, none⟩ = some (.float .f64 (pre.getLastD 0)) ∧ W.frozen? ⟨w.heap.size, 0, none⟩ = false) ∧ Below w.heap.size w W)
    (fun _ _ _ => False)
    (OwnFrom.and (Own.from (fun s A B row hs hg hr => ⟨cell_kept hs.1 hg hr, (frozen_kept hs.1 hg hr).trans hs.2⟩) _) (ownFrom_below (Nat.le_refl _) (by simp; omega)))
    (fun _ _ _ _ _ hs _ _ => hs)
    ⟨⟨(bS.alloc _).cell, (bS.alloc _).frozen⟩, hB0⟩
    (fun x => { tmps := #[.slice a len cap, undef, .float .f64 0, .pointer (some ⟨w.heap.size, 0, none⟩), .float .f64 x, .slice a len cap, .func (.func 103) #[] #[.pointer (some ⟨w.heap.size + 1, 0, none⟩)], .float .f64 x, undef, undef], defers := [] }) ?assign ?body ?done ?stop
  case assign =>
    intro l x W K hK
    gi_wp2
    exact hK
  case body =>
    rintro l pre x W ⟨⟨hc, hf⟩, hB⟩ _
    gi_wp2
    exact ⟨(KeepsOthers.setCell _ _ _).from _, (Below.refl w.heap.size W).setCell (p := ⟨w.heap.size, 0, none⟩) (Nat.le_refl _) _, ⟨by simp only [List.getLastD_concat]; exact World.cell?_setCell_same' _ _ _ (by rw [hc]; rfl), by rw [World.frozen?_setCell]; exact hf⟩, hB.setCell (p := ⟨w.heap.size, 0, none⟩) (Nat.le_refl _) _⟩
  case done =>
    rintro D ys W hD rfl ⟨⟨hc, _⟩, hB⟩ hK
    rw [runs_last, List.take_length] at hc
    gi_wp2
    refine ⟨by simp, .inl ⟨_, _, rfl, run_takeDeferred hK, ?_⟩⟩
    exact ⟨_, results_tmp rfl _ _ _, rfl, hB.trans (belowK_b (w := w) (Nat.le_refl _) W D _ _ (by simp at hD; omega) hK rfl rfl)⟩
  case stop =>
    rintro D c pre W _ _ h _
    exact h.elim
end
end Go.Proofs.YtehnkgonhgjeiaaGreatDoor

namespace Go.Proofs.YtehnkgonhgjeiaaGreatDoor
open Go.RowKit Go.IntWalk Go.Shelf

section
attribute [local go_sem] Oper.semAt_some

end
end Go.Proofs.YtehnkgonhgjeiaaGreatDoor

namespace Go.Proofs.YtehnkgonhgjeiaaGreatDoor
open Go.RowKit Go.IntWalk

theorem add_rndS (x y : Nat) (hx : x < 18446744073709551616) (hy : y < 18446744073709551616) (fx : x % 9223372036854775808 < 9218868437227405312) (fy : y % 9223372036854775808 < 9218868437227405312) :
    FloatKind.f64.format.add x y = some (signN (if sv x + sv y = 0 then decide (9223372036854775808 ≤ x) && decide (9223372036854775808 ≤ y) else decide (sv x + sv y < 0)) (rndM (sv x + sv y).natAbs (-1074))) := by
  obtain ⟨m, p, ex, vx⟩ := read_fin x hx fx
  obtain ⟨n, q, ey, vy⟩ := read_fin y hy fy
  unfold Ieee.Format.add
  rw [ex, ey]
  obtain ⟨mag, b, e, hv⟩ := sum_val _ _ m n p q (sv x) (sv y) (sv_form x m p vx) (sv_form y n q vy)
  rw [e]
  show some (FloatKind.f64.format.nearest _ mag ((b : Int) - 1074)) = _
  have := rndM_sc mag b ((b : Int) - 1074)
  rw [hv, show (b : Int) - 1074 - (b : Int) = -1074 by omega] at this
  rw [(near_rnd _ mag _).1, this]
theorem rnd_ne (V : Nat) (h0 : V ≠ 0) : rndM V (-1074) ≠ 0 := by
  have h := rn_min V h0
  unfold rnR at h
  rw [h]
  by_cases c : dN V = 0
  · have hs := (step_near V 0).2.2.1 (by simp; omega)
    rw [c]
    simp at hs
    rw [hs]
    omega
  · omega
theorem sv_nv (x : Nat) : (sv x).natAbs = nv (x % 9223372036854775808) := by unfold sv; split <;> omega
theorem sv_zero_iff (x : Nat) (h : sv x = 0) : x % 9223372036854775808 = 0 := by
  have := sv_nv x
  rw [h] at this
  exact nv_inj (this.symm.trans nv_zero.symm)
theorem rnd_nvS (r : Nat) (hr : r < 9218868437227405312) : rndM (nv r) (-1074) = r := by
  by_cases h0 : nv r = 0
  · have : r = 0 := by
      apply Classical.byContradiction
      intro h
      have := nv_lt (r := 0) (s := r) (by omega)
      rw [nv_zero] at this
      omega
    rw [h0, this]
    unfold rndM
    rw [if_pos rfl]
  · have h := nearest_nv false (nv r) 0 r h0 hr (by rw [Nat.pow_zero, Nat.mul_one])
    rw [show (((0 : Nat) : Int) - 1074) = -1074 by omega, (near_rnd false _ _).1, word_false, signN_false] at h
    exact h
theorem sign_not (s : Bool) (r : Nat) (hr : r ≤ 9218868437227405312) (h0 : r ≠ 0) : signN s r ≠ 9223372036854775808 := by
  unfold signN
  split <;> omega
theorem write_inf (s : Bool) : FloatKind.f64.format.write (.infinity s) ≠ 9223372036854775808 := by cases s <;> decide +kernel
theorem read_infS (x : Nat) (hx : x < 18446744073709551616) (h : x % 9223372036854775808 = 9218868437227405312) : ∃ s, FloatKind.f64.format.read x = .infinity s := by
  have : x = 9218868437227405312 ∨ x = 18442240474082181120 := by omega
  rcases this with rfl | rfl
  · exact ⟨false, by decide +kernel⟩
  · exact ⟨true, by decide +kernel⟩
theorem add_infL (x y z : Nat) (hx : x < 18446744073709551616) (h : x % 9223372036854775808 = 9218868437227405312) (e : FloatKind.f64.format.add x y = some z) : z ≠ 9223372036854775808 := by
  obtain ⟨s, hs⟩ := read_infS x hx h
  unfold Ieee.Format.add at e
  rw [hs] at e
  obtain ⟨d, hd, rfl⟩ := Option.map_eq_some_iff.1 e
  cases hy : FloatKind.f64.format.read y with
  | nan a b => rw [hy] at hd; cases hd
  | infinity t =>
    rw [hy] at hd
    simp only [Ieee.Datum.sum] at hd
    split at hd
    · cases hd; exact write_inf _
    · cases hd
  | number a b c => rw [hy] at hd; cases hd; exact write_inf _
theorem add_infR (x y z : Nat) (hy : y < 18446744073709551616) (h : y % 9223372036854775808 = 9218868437227405312) (e : FloatKind.f64.format.add x y = some z) : z ≠ 9223372036854775808 := by
  obtain ⟨s, hs⟩ := read_infS y hy h
  unfold Ieee.Format.add at e
  rw [hs] at e
  obtain ⟨d, hd, rfl⟩ := Option.map_eq_some_iff.1 e
  cases hx : FloatKind.f64.format.read x with
  | nan a b => rw [hx] at hd; cases hd
  | infinity t =>
    rw [hx] at hd
    simp only [Ieee.Datum.sum] at hd
    split at hd
    · cases hd; exact write_inf _
    · cases hd
  | number a b c => rw [hx] at hd; cases hd; exact write_inf _
/-- What is added to a number that isn't -0 doesn't come to -0. -/
theorem add_not (x y z : Nat) (hx : x < 18446744073709551616) (hy : y < 18446744073709551616) (h : x ≠ 9223372036854775808) (e : FloatKind.f64.format.add x y = some z) : z ≠ 9223372036854775808 := by
  by_cases nx : NaNW x
  · rw [(nan_l x y nx).1] at e; cases e
  by_cases ny : NaNW y
  · rw [(nan_r x y ny).1] at e; cases e
  have qx : x % 9223372036854775808 ≤ 9218868437227405312 := by unfold NaNW at nx; omega
  have qy : y % 9223372036854775808 ≤ 9218868437227405312 := by unfold NaNW at ny; omega
  by_cases ix : x % 9223372036854775808 = 9218868437227405312
  · exact add_infL x y z hx ix e
  by_cases iy : y % 9223372036854775808 = 9218868437227405312
  · exact add_infR x y z hy iy e
  rw [add_rndS x y hx hy (by omega) (by omega)] at e
  cases e
  by_cases c : sv x + sv y = 0
  · rw [if_pos c, c]
    have : (decide (9223372036854775808 ≤ x) && decide (9223372036854775808 ≤ y)) = false := by
      by_cases s1 : 9223372036854775808 ≤ x
      · have hn : sv x ≠ 0 := fun hz => by have := sv_zero_iff x hz; omega
        have h1 : sv x < 0 := by unfold sv at hn ⊢; rw [if_pos s1] at hn ⊢; omega
        have s2 : ¬ 9223372036854775808 ≤ y := fun s2 => by
          have : sv y ≤ 0 := by unfold sv; rw [if_pos s2]; omega
          omega
        rw [decide_eq_false s2, Bool.and_false]
      · rw [decide_eq_false s1, Bool.false_and]
    rw [this]
    decide
  · rw [if_neg c]
    exact sign_not _ _ (near_rnd false _ _).2 (rnd_ne _ (by omega))
theorem sumC_notN : ∀ (n : Nat) (xs : List Nat), xs.length = n → (∀ x ∈ xs, x < 18446744073709551616) → sumC xs ≠ 9223372036854775808
  | 0, xs, hn, _ => by rw [List.length_eq_zero_iff.1 hn]; decide
  | n + 1, xs, hn, hx => by
    rcases snoc_cases xs with rfl | ⟨ys, y, rfl⟩
    · cases hn
    · rw [sumC_snoc]
      have ih : sumC ys ≠ 9223372036854775808 := sumC_notN n ys (by simp at hn; exact hn) (fun x h => hx x (by simp [h]))
      have hy : canonOf y < 18446744073709551616 := canon_lt (hx y (by simp))
      unfold caf
      cases e : floatBits .add .f64 (sumC ys) (canonOf y) with
      | none => show (9221120237041090561 : Nat) ≠ _; decide
      | some z =>
        show canonOf z ≠ _
        have hz := add_not _ _ z (sumC_lt ys) hy ih e
        unfold canonOf
        split
        · decide
        · exact hz
theorem sumC_not (xs : List Nat) (hx : ∀ x ∈ xs, x < 18446744073709551616) : sumC xs ≠ 9223372036854775808 := sumC_notN _ xs rfl hx
theorem add_nought (x : Nat) (hx : x < 18446744073709551616) (hn : x % 9223372036854775808 ≤ 9218868437227405312) (h : x ≠ 9223372036854775808) : FloatKind.f64.format.add x 0 = some x := by
  by_cases c : x % 9223372036854775808 = 9218868437227405312
  · have : x = 9218868437227405312 ∨ x = 18442240474082181120 := by omega
    rcases this with rfl | rfl <;> decide +kernel
  · rw [add_rndS x 0 hx (by decide) (by omega) (by decide)]
    have z0 : sv 0 = 0 := by decide +kernel
    have hr : rndM (sv x).natAbs (-1074) = x % 9223372036854775808 := by
      rw [sv_nv]
      exact rnd_nvS _ (by omega)
    rw [z0, Int.add_zero, hr]
    congr 1
    by_cases k : sv x = 0
    · have := sv_zero_iff x k
      rw [if_pos k, this, decide_eq_false (show ¬ 9223372036854775808 ≤ 0 by decide), Bool.and_false]
      show 0 = x
      omega
    · rw [if_neg k]
      by_cases s1 : 9223372036854775808 ≤ x
      · have h1 : sv x < 0 := by unfold sv at k ⊢; rw [if_pos s1] at k ⊢; omega
        rw [decide_eq_true h1]
        unfold signN
        simp
        omega
      · have h1 : ¬ sv x < 0 := by unfold sv; rw [if_neg s1]; omega
        rw [decide_eq_false h1]
        unfold signN
        simp
        omega
/-- A zero behind changes nothing. -/
theorem sumC_zero (xs : List Nat) (hx : ∀ x ∈ xs, x < 18446744073709551616) : sumC (xs ++ [0]) = sumC xs := by
  rw [sumC_snoc, show canonOf 0 = 0 by decide]
  have h1 := sumC_lt xs
  have h2 := sumC_not xs hx
  have h3 := sumC_can xs
  unfold caf
  by_cases n : NaNW (sumC xs)
  · rw [fb_nan ok_a (Or.inl n)]
    rw [← h3, canon_nan n]
    rfl
  · rw [show floatBits .add .f64 (sumC xs) 0 = some (sumC xs) from add_nought _ h1 (by unfold NaNW at n; omega) h2]
    exact h3
end Go.Proofs.YtehnkgonhgjeiaaGreatDoor
