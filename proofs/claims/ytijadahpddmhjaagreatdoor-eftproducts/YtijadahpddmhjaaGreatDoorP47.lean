
/- The document's exact numbers: Abs, Power; eft's Fused where each step has an answer. (Written by mkejc.py.) -/
import Derived.Test.YtijadahpddmhjaaGreatDoorP46
import Derived.Test.YtijadahpddmhjaaGreatDoorP38
import Derived.Test.YtijadahpddmhjaaGreatDoorP11
namespace Go.Proofs.YtijadahpddmhjaaGreatDoor
open Go.RowKit Go.IntWalk

set_option maxRecDepth 4000 in
set_option maxHeartbeats 1000000 in
theorem xAbs_core (p bd : Nat) (v e : Int) (w : World) (h : NumAt w p v bd) (hbd : bd ≤ 900000) :
    Calls Tryz.prog 21 #[.agg #[.pointer (some ⟨p, 0, none⟩), .int .i64 e]] w fun r w' => ∃ q, r = .returned (.agg #[.pointer (some ⟨q, 0, none⟩), .int .i64 e]) ∧ w.heap.size ≤ q ∧ NumAt w' q (v.natAbs : Int) bd ∧ Below w.heap.size w w' := by
  obtain ⟨W0, hW0⟩ : ∃ V, Hid ((w.alloc (XBox (some ⟨p, 0, none⟩) e)).alloc (XBox none 0) = V) := ⟨_, rfl⟩
  obtain ⟨g1, g2⟩ := two_blk w (XBox (some ⟨p, 0, none⟩) e) (XBox none 0)
  have HS0 : Hid (W0.heap.size = w.heap.size + 2) := by
    show W0.heap.size = w.heap.size + 2
    rw [← hW0.out]; simp
  have HB0 : Hid (Below w.heap.size w W0) := by
    rw [← hW0.out]
    exact ((Below.refl _ _).alloc (Nat.le_refl _) _).alloc (by simp) _
  rw [hW0.out] at g1 g2
  have HK : Hid (∀ W, Hid (XRes (w.heap.size + 1) W0 W) → (W.cell? ⟨w.heap.size, 0, none⟩ = some (.pointer (some ⟨p, 0, none⟩)) ∧ W.cell? ⟨w.heap.size, 1, none⟩ = some (.int .i64 e)) ∧ Hid (XRes (w.heap.size + 1) W0 W)) := fun W hW => by
    have := xcells_of ((hW.out.1.block _ (by rw [HS0.out]; omega) (by omega)).trans g1)
    exact ⟨⟨this.1, this.2.1⟩, hW⟩
  have HQR : Hid (XRes (w.heap.size + 1) W0 W0) := ⟨But.refl _ _, _, _, g2⟩
  obtain ⟨V1, hV1⟩ : ∃ V, Hid ((W0.alloc (.cells #[.bool false, .slice none 0 0] 63)).drew = V) := ⟨_, rfl⟩
  have HN : Hid (Calls Tryz.prog 50 #[.pointer (some ⟨W0.heap.size, 0, none⟩), .pointer (some ⟨p, 0, none⟩)] (W0.alloc (.cells #[.bool false, .slice none 0 0] 63)).drew fun r w' => r = .returned (.pointer (some ⟨W0.heap.size, 0, none⟩)) ∧ Hid (NumAt w' W0.heap.size (v.natAbs : Int) bd ∧ w'.heap[w.heap.size + 1]? = some (XBox none 0)) ∧ (∀ o, w'.frozen? ⟨w.heap.size + 1, o, none⟩ = false) ∧ w'.cell? ⟨w.heap.size + 1, 0, none⟩ = some (.pointer none) ∧ w'.cell? ⟨w.heap.size + 1, 1, none⟩ = some (.int .i64 0) ∧ Hid (XRes (w.heap.size + 1) W0 w')) := by
    have hx := xr_dr (xr_al HQR (.cells #[.bool false, .slice none 0 0] 63))
    have hbw : Below w.heap.size w (W0.alloc (.cells #[.bool false, .slice none 0 0] 63)).drew := (HB0.out.alloc HB0.out.size _).drew
    refine (NAbs W0.heap.size p v bd _ (zok_dr (fresh_zok W0)) (h.below hbw) hbd).mono ?_
    rintro r w' ⟨rfl, hn, hbt⟩
    have hB' := hx.out.but hbt (Nat.le_refl _) (by rw [HS0.out]; omega)
    have hr : w'.heap[w.heap.size + 1]? = some (XBox none 0) := by
      rw [hbt.block (w.heap.size + 1) (by show _ < (W0.alloc _).heap.size; simp; have := HS0.out; omega) (by have := HS0.out; omega)]
      show (W0.alloc _).heap[w.heap.size + 1]? = _
      rw [((Below.refl W0.heap.size W0).alloc (Nat.le_refl _) _).block _ (by have := HS0.out; omega)]
      exact g2
    obtain ⟨f1, f2, f3⟩ := xcells_of hr
    exact ⟨rfl, ⟨hn, hr⟩, f3, f1, f2, hB'⟩
  unfold XBox at hW0
  clear h hbd g1 g2
  go_enter Tryz.func21, Tryz.ntmps21
  go_wp2_with fail
  rw [hW0.out]
  go_region_held3 (fun W => (W.cell? ⟨w.heap.size, 0, none⟩ = some (.pointer (some ⟨p, 0, none⟩)) ∧ W.cell? ⟨w.heap.size, 1, none⟩ = some (.int .i64 e)) ∧ Hid (XRes (w.heap.size + 1) W0 W))
    ((refine HK.out _ ?_; repeat' (first | with_reducible assumption | with_reducible exact HQR | with_reducible refine xr_al ?_ _ | with_reducible refine xr_dr ?_ | with_reducible refine xr_store ?_ _ _)))
    (first
      | (go_at_call 50; refine HN.out.mono ?_; rintro r w3 ⟨rfl, HF, fz, c0, c1, HB3⟩))
  go_wp2
  exact bodyPost_ret (v := .agg #[.pointer (some ⟨W0.heap.size, 0, none⟩), .int .i64 e]) (by simp [results, Tryz.results21, go_sem, c0, c1]) rfl ⟨W0.heap.size, rfl, by have := HS0.out; omega, HF.out.1.stored (by have := HS0.out; omega) HF.out.2 _ _, HB0.out.trans ((xr_store HB3 _ _).out.1.below HB0.out.size (by omega))⟩
theorem ExV.base {w : World} {p : Nat} {e B z : Int} {bd : Nat} (h : ExV w p e B z bd) (n : Nat) : ExV w p e (B - n) (z * ((2 ^ n : Nat) : Int)) bd := by
  obtain ⟨v, k, h1, h2, h3⟩ := h
  refine ⟨v, k + n, h1, by omega, ?_⟩
  rw [h3, Int.pow_add, Int.mul_assoc, Int.natCast_pow]
  rfl
theorem xAbs_val (p bd : Nat) (e B z : Int) (w : World) (h : ExV w p e B z bd) (hbd : bd ≤ 400000) :
    Calls Tryz.prog 21 #[.agg #[.pointer (some ⟨p, 0, none⟩), .int .i64 e]] w fun r w' => ∃ q, r = .returned (.agg #[.pointer (some ⟨q, 0, none⟩), .int .i64 e]) ∧ ExV w' q e B (z.natAbs : Int) bd ∧ Below w.heap.size w w' := by
  obtain ⟨v, k, h1, h2, h3⟩ := h
  refine (xAbs_core p bd v e w h1 (by omega)).mono ?_
  rintro r w' ⟨q, rfl, hq, hn, hb⟩
  exact ⟨q, rfl, ⟨(v.natAbs : Int), k, hn, h2, by rw [h3, Int.natAbs_mul, Int.natAbs_pow, Int.natCast_mul, Int.natCast_pow]; rfl⟩, hb⟩
set_option maxRecDepth 4000 in
set_option maxHeartbeats 1000000 in
theorem xPower_any (e : Int) (w : World) : Calls Tryz.prog 23 #[.int .i64 e] w fun r w' => ∃ q, r = .returned (.agg #[.pointer (some ⟨q, 0, none⟩), .int .i64 e]) ∧ NumAt w' q 1 2 ∧ Below w.heap.size w w' := by
  have HN := hid (fun (W : World) => NNew 1 W (by decide))
  obtain ⟨W0, hW0⟩ : ∃ V, Hid (w.alloc (XBox none 0) = V) := ⟨_, rfl⟩
  have HS0 : Hid (W0.heap.size = w.heap.size + 1) := by
    show W0.heap.size = w.heap.size + 1
    rw [← hW0.out]; simp
  have HB0 : Hid (Below w.heap.size w W0) := by
    rw [← hW0.out]
    exact (Below.refl _ _).alloc (Nat.le_refl _) _
  have HG : Hid (∀ W, Below W0.heap.size W0 W → W.heap[w.heap.size]? = some (XBox none 0)) := fun W hW => by
    rw [hW.block _ (by have := HS0.out; omega), ← hW0.out]
    exact new_blk _ _ _ rfl
  unfold XBox at hW0
  go_enter Tryz.func23, Tryz.ntmps23
  go_wp2_with fail
  rw [hW0.out]
  refine (HN.out _).mono ?_
  rintro r w1 ⟨rfl, hn1, hb1⟩
  have hg := HG.out _ hb1
  have HGG := hid hg
  obtain ⟨c0, c1, fz⟩ := xcells_of (show w1.heap[w.heap.size]? = some (.cells #[.pointer none, .int .i64 0] 34) from hg)
  have HN1 := hid hn1
  have HB1 := hid (HB0.out.trans (hb1.mono HB0.out.size))
  clear hn1 hb1 hg
  go_wp2
  exact bodyPost_ret (v := .agg #[.pointer (some ⟨W0.heap.size, 0, none⟩), .int .i64 e]) (by simp [results, Tryz.results23, go_sem, c0, c1]) rfl ⟨W0.heap.size, rfl, HN1.out.stored (by have := HS0.out; omega) HGG.out _ _, Below.setCell (Below.setCell HB1.out (Nat.le_refl _) _) (Nat.le_refl _) _⟩
theorem fma_run (x y z r : Nat) (h : FloatKind.f64.format.fma x y z = some r) (w : World) : (callFunc 35 #[.float .f64 x, .float .f64 y, .float .f64 z]).run Tryz.prog w = .ok (.value (.float .f64 r)) w := by
  rw [run_callFunc_extern Tryz.func35 (by kernel_rfl) (by kernel_rfl) (by kernel_rfl) (e := Extern.MathFMA.fma) (by kernel_rfl)]
  have e : Extern.MathFMA.fma #[.float .f64 x, .float .f64 y, .float .f64 z] = pure (.float .f64 r) := by
    show (match FloatKind.f64.format.fma x y z with
      | some r => pure (Value.float .f64 r)
      | none => do
        let (a, b) := if Extern.MathFMA.isNaN x then (x, y) else if Extern.MathFMA.isNaN y then (y, z) else (z, z)
        pure (Value.float .f64 (← choose (.nanBits .f64 a b)))) = _
    rw [h]
  rw [e]
  rfl
theorem three_fin (a b p : Nat) (ha : a < 18446744073709551616) (hb : b < 18446744073709551616) (hp : p < 18446744073709551616) (fa : a % 9223372036854775808 < 9218868437227405312) (fb : b % 9223372036854775808 < 9218868437227405312) (fp : p % 9223372036854775808 < 9218868437227405312) (k cap : Nat) (W : World) (hk : k < W.heap.size) (h0 : W.cell? ⟨k, 0, none⟩ = some (.float .f64 a)) (h1 : W.cell? ⟨k, 1, none⟩ = some (.float .f64 b)) (h2 : W.cell? ⟨k, 2, none⟩ = some (.float .f64 p)) :
    Calls Tryz.prog 33 #[.slice (some ⟨k, 0, none⟩) 3 cap] W fun r w' => r = .returned (.bool true) ∧ Below W.heap.size W w' := by
  have := Finite_any [a, b, p] k 0 cap W hk (fun i hi => by
      have hi2 : i < 3 := hi
      match i, hi2 with
      | 0, _ => exact h0
      | 1, _ => exact h1
      | 2, _ => exact h2) (fun i hi => by
      have hi2 : i < 3 := hi
      match i, hi2 with
      | 0, _ => exact ha
      | 1, _ => exact hb
      | 2, _ => exact hp) (by simp)
  have e : allFin [a, b, p] = true := by
    have x1 := exp_fin a fa
    have x2 := exp_fin b fb
    have x3 := exp_fin p fp
    simp [allFin, x1, x2, x3]
  rw [e] at this
  exact this
set_option maxRecDepth 4000 in
set_option maxHeartbeats 1000000 in
theorem Fused_at (a b p r : Nat) (w : World) (ha : a < 18446744073709551616) (hb : b < 18446744073709551616) (hp : p < 18446744073709551616) (fa : a % 9223372036854775808 < 9218868437227405312) (fb : b % 9223372036854775808 < 9218868437227405312) (fp : p % 9223372036854775808 < 9218868437227405312)
    (h1 : FloatKind.f64.format.mul a b = some p) (h2 : FloatKind.f64.format.fma a b (flipOf p) = some r) :
    Calls Tryz.prog 15 #[.float .f64 a, .float .f64 b] w fun z w' => z = .returned (.tuple #[.float .f64 p, .float .f64 r]) ∧ Below w.heap.size w w' := by
  have g1 := f_mul h1
  have gn := neg_flip p hp
  obtain ⟨np, hnp⟩ : ∃ np, Hid (flipOf p = np) := ⟨_, rfl⟩
  rw [hnp.out] at h2 gn
  have g2 := fma_run a b np r h2
  have HF := hid (three_fin a b p ha hb hp fa fb fp)
  clear h1 h2 ha hb hp fa fb fp
  go_enter Tryz.func15, Tryz.ntmps15
  go_wp2_with fail
  refine (HF.out _ _ _ (by simp) (by simp [go_sem]) (by simp [go_sem]) (by simp [go_sem])).mono ?_
  rintro z w1 ⟨rfl, hb1⟩
  have HB1 : Hid (Below w.heap.size w w1) := ((Below.refl _ _).alloc (Nat.le_refl _) _).trans (hb1.mono (by simp))
  clear hb1
  go_wp2
  go_ret2
  exact ⟨rfl, HB1.out⟩
end Go.Proofs.YtijadahpddmhjaaGreatDoor
