
/- interval's sum with the infinity; Width, Radius. -/
import Derived.Test.YtilffgmekeeohaaDoorP21
namespace Go.Proofs.YtilffgmekeeohaaDoor
open Go.RowKit Go.IntWalk

theorem inf_add {x : Nat} (hx : x < 18446744073709551616) (nx : x % 9223372036854775808 ≤ 9218868437227405312) (hn : x ≠ 18442240474082181120) : FloatKind.f64.format.add 9218868437227405312 x = some 9218868437227405312 := by
  by_cases c : x % 9223372036854775808 < 9218868437227405312
  · obtain ⟨m, p, ex, _⟩ := read_fin x hx c
    unfold Ieee.Format.add
    rw [ex]
    rfl
  · have : x = 9218868437227405312 := by omega
    rw [this]
    decide +kernel
theorem setl_nan (s b y : Nat) (to : Bool) (hb : 9218868437227405312 < b % 9223372036854775808) : setl s b y to = s := by
  unfold setl
  rw [order_nan_l b y hb]
  cases to <;> rfl
theorem inf_self : floatBits .sub .f64 9218868437227405312 9218868437227405312 = none := by decide +kernel
set_option maxHeartbeats 1000000 in
theorem sum_pinf1 (y : Nat) (to : Bool) (w : World) (hy : y < 18446744073709551616) (ny : y % 9223372036854775808 ≤ 9218868437227405312) (hn : y ≠ 18442240474082181120) : Calls Tryd.prog 28 #[.float .f64 9218868437227405312, .float .f64 y, .bool to] w fun z w' => z = .returned (.float .f64 9218868437227405312) ∧ Below w.heap.size w w' := by
  obtain ⟨f, hf, ha⟩ := nan6_arith .sub 9218868437227405312 9218868437227405312 (by simp) inf_self
  have HA := hid (fun (W : World) => abs6_fl 9218868437227405312 W (by decide))
  rw [show 9218868437227405312 % 9223372036854775808 = 9218868437227405312 by decide] at HA
  have HB := hid (fun (W : World) => abs6_fl y W hy)
  have ho : (FloatKind.f64.format.order 9218868437227405312 (y % 9223372036854775808) == some .lt) = false := by
    rw [order6_mag _ _ (by decide) ny, if_neg (by omega)]
    split <;> rfl
  have HS := hid (fun (v W : World) => settled_any 9218868437227405312 (f v) y to W (by decide))
  have HS2 : Hid (∀ (v W : World), Calls Tryd.prog 49 #[.float .f64 9218868437227405312, .float .f64 (f v), .float .f64 y, .bool to] W fun r w' => r = .returned (.float .f64 9218868437227405312) ∧ Below W.heap.size W w') := fun v W => by
    have := HS.out v W
    rw [setl_nan _ _ _ _ (hf v).2] at this
    exact this
  have g1 := f6_add (inf_add hy ny hn)
  obtain ⟨B, hB⟩ : ∃ A, Hid (y % 9223372036854775808 = A) := ⟨_, rfl⟩
  rw [hB.out] at HB ho
  clear hy ny hn hf HS
  go_enter Tryd.func28, Tryd.ntmps28
  go_wp2_with fail
  refine (HA.out _).mono ?_
  rintro z w1 ⟨rfl, rfl⟩
  go_wp2_with fail
  refine (HB.out _).mono ?_
  rintro z w1 ⟨rfl, rfl⟩
  go_wp2_with fail
  refine (HS2.out _ _).mono ?_
  rintro z w2 ⟨rfl, hb⟩
  have HBB := hid (((Below.refl _ _).drew).trans hb)
  clear hb
  go_wp2
  go_ret
  exact ⟨rfl, HBB.out⟩
set_option maxHeartbeats 1000000 in
theorem sum_pinf2 (x : Nat) (to : Bool) (w : World) (hx : x < 18446744073709551616) (fx : x % 9223372036854775808 < 9218868437227405312) : Calls Tryd.prog 28 #[.float .f64 x, .float .f64 9218868437227405312, .bool to] w fun z w' => z = .returned (.float .f64 9218868437227405312) ∧ Below w.heap.size w w' := by
  obtain ⟨f, hf, ha⟩ := nan6_arith .sub 9218868437227405312 9218868437227405312 (by simp) inf_self
  have HB := hid (fun (W : World) => abs6_fl 9218868437227405312 W (by decide))
  rw [show 9218868437227405312 % 9223372036854775808 = 9218868437227405312 by decide] at HB
  have HA := hid (fun (W : World) => abs6_fl x W hx)
  have ho : FloatKind.f64.format.order (x % 9223372036854775808) 9218868437227405312 = some .lt := by
    rw [order6_mag _ _ (by omega) (by decide), if_pos fx]
  have HS := hid (fun (v W : World) => settled_any 9218868437227405312 (f v) x to W (by decide))
  have HS2 : Hid (∀ (v W : World), Calls Tryd.prog 49 #[.float .f64 9218868437227405312, .float .f64 (f v), .float .f64 x, .bool to] W fun r w' => r = .returned (.float .f64 9218868437227405312) ∧ Below W.heap.size W w') := fun v W => by
    have := HS.out v W
    rw [setl_nan _ _ _ _ (hf v).2] at this
    exact this
  have g1 := f6_add (inf_add hx (by omega) (by intro c; rw [c] at fx; exact absurd fx (by decide)))
  obtain ⟨A, hA⟩ : ∃ A, Hid (x % 9223372036854775808 = A) := ⟨_, rfl⟩
  rw [hA.out] at HA ho
  clear hx fx hf HS
  go_enter Tryd.func28, Tryd.ntmps28
  go_wp2_with fail
  refine (HA.out _).mono ?_
  rintro z w1 ⟨rfl, rfl⟩
  go_wp2_with fail
  refine (HB.out _).mono ?_
  rintro z w1 ⟨rfl, rfl⟩
  go_wp2_with fail
  refine (HS2.out _ _).mono ?_
  rintro z w2 ⟨rfl, hb⟩
  have HBB := hid (((Below.refl _ _).drew).trans hb)
  clear hb
  go_wp2
  go_ret
  exact ⟨rfl, HBB.out⟩
set_option maxHeartbeats 2000000 in
theorem Width_none (lo hi : Nat) (w : World) (hN : noneB (btLo lo hi) (btHi lo hi) = true) : Calls Tryd.prog 8 #[IV lo hi] w fun r w' => r = .returned (.float .f64 9221120237041090561) ∧ Below w.heap.size w w' := by
  have g1 := inew w (IBox lo hi)
  have HB0 : Hid (Below w.heap.size w (w.alloc (IBox lo hi))) := (Below.refl _ _).alloc (Nat.le_refl _) _
  obtain ⟨W0, hW0⟩ : ∃ V, Hid (w.alloc (IBox lo hi) = V) := ⟨_, rfl⟩
  rw [hW0.out] at g1 HB0
  have HT := hid (taken_any lo hi W0)
  have HP : Hid (∀ W, Below W0.heap.size W0 W → BY ((W.setCell ⟨w.heap.size, 0, none⟩ (.float .f64 (btLo lo hi))).setCell ⟨w.heap.size, 1, none⟩ (.float .f64 (btHi lo hi))) w.heap.size (btLo lo hi) (btHi lo hi) ∧ Below w.heap.size w ((W.setCell ⟨w.heap.size, 0, none⟩ (.float .f64 (btLo lo hi))).setCell ⟨w.heap.size, 1, none⟩ (.float .f64 (btHi lo hi))) ∧ (∀ o, W.frozen? ⟨w.heap.size, o, none⟩ = false) ∧ W.cell? ⟨w.heap.size, 0, none⟩ = some (.float .f64 lo) ∧ W.cell? ⟨w.heap.size, 1, none⟩ = some (.float .f64 hi)) := fun W hW => by
    have k : BY W w.heap.size lo hi := BY.keep (W := W0) g1 hW
    exact ⟨k.put _ _, Below.setCell (Below.setCell (HB0.out.trans (hW.mono HB0.out.size)) (Nat.le_refl _) _) (Nat.le_refl _) _, k.cells.2.2, k.cells.1, k.cells.2.1⟩
  obtain ⟨y0, y1, y2⟩ := icells_of (show W0.heap[w.heap.size]? = some (.cells #[.float .f64 lo, .float .f64 hi] 28) from g1)
  obtain ⟨A, hA⟩ : ∃ z, Hid (btLo lo hi = z) := ⟨_, rfl⟩
  obtain ⟨B, hB⟩ : ∃ z, Hid (btHi lo hi = z) := ⟨_, rfl⟩
  rw [hA.out, hB.out] at HT HP hN
  unfold IBox at hW0
  have hW0' := hW0.out
  have hst := fstore
  unfold IV at HT ⊢
  clear g1
  go_enter Tryd.func8, Tryd.ntmps8
  go_wp2_with fail
  refine HT.out.mono ?_
  rintro r w1 ⟨rfl, hb1⟩
  obtain ⟨k0, k1, k2, k3, k4⟩ := HP.out w1 hb1
  obtain ⟨X, hX⟩ : ∃ X, Hid ((w1.setCell ⟨w.heap.size, 0, none⟩ (.float .f64 A)).setCell ⟨w.heap.size, 1, none⟩ (.float .f64 B) = X) := ⟨_, rfl⟩
  have hX' := hX.out
  rw [hX'] at k0 k1
  have HK0 := hid k0
  have HBX := hid k1
  obtain ⟨c0, c1, _⟩ := k0.cells
  have HXX : Hid (Below X.heap.size X X) := Below.refl _ _
  clear hb1 k0 k1
  have HN := hid (fr6 X _ _ _ HK0.out (fun W => none_any A B W))
  rw [hN] at HN
  unfold IV at HN
  have HNN := hid theNaN6_any
  go_wp2_with fail
  refine (HN.out _ HXX).mono ?_
  rintro r w2 ⟨rfl, ⟨c2, c3⟩, HF2⟩
  go_wp2_with fail
  refine (HNN.out _).mono ?_
  rintro r w3 ⟨rfl, hb3⟩
  have HB3 := hid ((HBX.out.trans (HF2.out.mono HBX.out.size)).trans (hb3.mono (Nat.le_trans HBX.out.size HF2.out.size)))
  clear hb3
  go_wp2
  go_ret
  exact ⟨rfl, HB3.out⟩
set_option maxHeartbeats 2000000 in
theorem Radius_none (lo hi : Nat) (w : World) (hN : noneB (btLo lo hi) (btHi lo hi) = true) : Calls Tryd.prog 7 #[IV lo hi] w fun r w' => r = .returned (.float .f64 9221120237041090561) ∧ Below w.heap.size w w' := by
  have g1 := inew w (IBox lo hi)
  have HB0 : Hid (Below w.heap.size w (w.alloc (IBox lo hi))) := (Below.refl _ _).alloc (Nat.le_refl _) _
  obtain ⟨W0, hW0⟩ : ∃ V, Hid (w.alloc (IBox lo hi) = V) := ⟨_, rfl⟩
  rw [hW0.out] at g1 HB0
  have HT := hid (taken_any lo hi W0)
  have HP : Hid (∀ W, Below W0.heap.size W0 W → BY ((W.setCell ⟨w.heap.size, 0, none⟩ (.float .f64 (btLo lo hi))).setCell ⟨w.heap.size, 1, none⟩ (.float .f64 (btHi lo hi))) w.heap.size (btLo lo hi) (btHi lo hi) ∧ Below w.heap.size w ((W.setCell ⟨w.heap.size, 0, none⟩ (.float .f64 (btLo lo hi))).setCell ⟨w.heap.size, 1, none⟩ (.float .f64 (btHi lo hi))) ∧ (∀ o, W.frozen? ⟨w.heap.size, o, none⟩ = false) ∧ W.cell? ⟨w.heap.size, 0, none⟩ = some (.float .f64 lo) ∧ W.cell? ⟨w.heap.size, 1, none⟩ = some (.float .f64 hi)) := fun W hW => by
    have k : BY W w.heap.size lo hi := BY.keep (W := W0) g1 hW
    exact ⟨k.put _ _, Below.setCell (Below.setCell (HB0.out.trans (hW.mono HB0.out.size)) (Nat.le_refl _) _) (Nat.le_refl _) _, k.cells.2.2, k.cells.1, k.cells.2.1⟩
  obtain ⟨y0, y1, y2⟩ := icells_of (show W0.heap[w.heap.size]? = some (.cells #[.float .f64 lo, .float .f64 hi] 28) from g1)
  obtain ⟨A, hA⟩ : ∃ z, Hid (btLo lo hi = z) := ⟨_, rfl⟩
  obtain ⟨B, hB⟩ : ∃ z, Hid (btHi lo hi = z) := ⟨_, rfl⟩
  rw [hA.out, hB.out] at HT HP hN
  unfold IBox at hW0
  have hW0' := hW0.out
  have hst := fstore
  unfold IV at HT ⊢
  clear g1
  go_enter Tryd.func7, Tryd.ntmps7
  go_wp2_with fail
  refine HT.out.mono ?_
  rintro r w1 ⟨rfl, hb1⟩
  obtain ⟨k0, k1, k2, k3, k4⟩ := HP.out w1 hb1
  obtain ⟨X, hX⟩ : ∃ X, Hid ((w1.setCell ⟨w.heap.size, 0, none⟩ (.float .f64 A)).setCell ⟨w.heap.size, 1, none⟩ (.float .f64 B) = X) := ⟨_, rfl⟩
  have hX' := hX.out
  rw [hX'] at k0 k1
  have HK0 := hid k0
  have HBX := hid k1
  obtain ⟨c0, c1, _⟩ := k0.cells
  have HXX : Hid (Below X.heap.size X X) := Below.refl _ _
  clear hb1 k0 k1
  have HN := hid (fr6 X _ _ _ HK0.out (fun W => none_any A B W))
  rw [hN] at HN
  unfold IV at HN
  have HNN := hid theNaN6_any
  go_wp2_with fail
  refine (HN.out _ HXX).mono ?_
  rintro r w2 ⟨rfl, ⟨c2, c3⟩, HF2⟩
  go_wp2_with fail
  refine (HNN.out _).mono ?_
  rintro r w3 ⟨rfl, hb3⟩
  have HB3 := hid ((HBX.out.trans (HF2.out.mono HBX.out.size)).trans (hb3.mono (Nat.le_trans HBX.out.size HF2.out.size)))
  clear hb3
  go_wp2
  go_ret
  exact ⟨rfl, HB3.out⟩
set_option maxHeartbeats 2000000 in
theorem Width_core (lo hi u : Nat) (w : World) (hlt : btLo lo hi < 18446744073709551616) (hN : noneB (btLo lo hi) (btHi lo hi) = false) (hs : ∀ W, Calls Tryd.prog 28 #[.float .f64 (btHi lo hi), .float .f64 (flipOf (btLo lo hi)), .bool true] W fun r w' => r = .returned (.float .f64 u) ∧ Below W.heap.size W w') : Calls Tryd.prog 8 #[IV lo hi] w fun r w' => r = .returned (.float .f64 u) ∧ Below w.heap.size w w' := by
  have hneg := neg6_flip (btLo lo hi) hlt
  have HS0 := hid hs
  clear hs hlt
  have g1 := inew w (IBox lo hi)
  have HB0 : Hid (Below w.heap.size w (w.alloc (IBox lo hi))) := (Below.refl _ _).alloc (Nat.le_refl _) _
  obtain ⟨W0, hW0⟩ : ∃ V, Hid (w.alloc (IBox lo hi) = V) := ⟨_, rfl⟩
  rw [hW0.out] at g1 HB0
  have HT := hid (taken_any lo hi W0)
  have HP : Hid (∀ W, Below W0.heap.size W0 W → BY ((W.setCell ⟨w.heap.size, 0, none⟩ (.float .f64 (btLo lo hi))).setCell ⟨w.heap.size, 1, none⟩ (.float .f64 (btHi lo hi))) w.heap.size (btLo lo hi) (btHi lo hi) ∧ Below w.heap.size w ((W.setCell ⟨w.heap.size, 0, none⟩ (.float .f64 (btLo lo hi))).setCell ⟨w.heap.size, 1, none⟩ (.float .f64 (btHi lo hi))) ∧ (∀ o, W.frozen? ⟨w.heap.size, o, none⟩ = false) ∧ W.cell? ⟨w.heap.size, 0, none⟩ = some (.float .f64 lo) ∧ W.cell? ⟨w.heap.size, 1, none⟩ = some (.float .f64 hi)) := fun W hW => by
    have k : BY W w.heap.size lo hi := BY.keep (W := W0) g1 hW
    exact ⟨k.put _ _, Below.setCell (Below.setCell (HB0.out.trans (hW.mono HB0.out.size)) (Nat.le_refl _) _) (Nat.le_refl _) _, k.cells.2.2, k.cells.1, k.cells.2.1⟩
  obtain ⟨y0, y1, y2⟩ := icells_of (show W0.heap[w.heap.size]? = some (.cells #[.float .f64 lo, .float .f64 hi] 28) from g1)
  obtain ⟨A, hA⟩ : ∃ z, Hid (btLo lo hi = z) := ⟨_, rfl⟩
  obtain ⟨B, hB⟩ : ∃ z, Hid (btHi lo hi = z) := ⟨_, rfl⟩
  rw [hA.out, hB.out] at HT HP hN HS0
  rw [hA.out] at hneg
  unfold IBox at hW0
  have hW0' := hW0.out
  have hst := fstore
  unfold IV at HT ⊢
  clear g1
  go_enter Tryd.func8, Tryd.ntmps8
  go_wp2_with fail
  refine HT.out.mono ?_
  rintro r w1 ⟨rfl, hb1⟩
  obtain ⟨k0, k1, k2, k3, k4⟩ := HP.out w1 hb1
  obtain ⟨X, hX⟩ : ∃ X, Hid ((w1.setCell ⟨w.heap.size, 0, none⟩ (.float .f64 A)).setCell ⟨w.heap.size, 1, none⟩ (.float .f64 B) = X) := ⟨_, rfl⟩
  have hX' := hX.out
  rw [hX'] at k0 k1
  have HK0 := hid k0
  have HBX := hid k1
  obtain ⟨c0, c1, _⟩ := k0.cells
  have HXX : Hid (Below X.heap.size X X) := Below.refl _ _
  clear hb1 k0 k1
  have HN := hid (fr6 X _ _ _ HK0.out (fun W => none_any A B W))
  rw [hN] at HN
  have HS := hid (fr6 X _ _ _ HK0.out HS0.out)
  unfold IV at HN
  go_wp2_with fail
  refine (HN.out _ HXX).mono ?_
  rintro r w2 ⟨rfl, ⟨c2, c3⟩, HF2⟩
  go_wp2_with fail
  refine (HS.out _ HF2).mono ?_
  rintro r w3 ⟨rfl, ⟨c4, c5⟩, HF3⟩
  go_wp2
  go_ret
  exact ⟨rfl, HBX.out.trans (HF3.out.mono HBX.out.size)⟩
set_option maxHeartbeats 4000000 in
theorem Radius_core (lo hi m u v : Nat) (w : World) (hlt : btLo lo hi < 18446744073709551616) (hmt : m < 18446744073709551616) (hu : Cn u) (hv : Cn v) (hN : noneB (btLo lo hi) (btHi lo hi) = false) (hm : ∀ W, Calls Tryd.prog 6 #[IV (btLo lo hi) (btHi lo hi)] W fun r w' => r = .returned (.float .f64 m) ∧ Below W.heap.size W w') (hs : ∀ W, Calls Tryd.prog 28 #[.float .f64 m, .float .f64 (flipOf (btLo lo hi)), .bool true] W fun r w' => r = .returned (.float .f64 u) ∧ Below W.heap.size W w') (hs2 : ∀ W, Calls Tryd.prog 28 #[.float .f64 (btHi lo hi), .float .f64 (flipOf m), .bool true] W fun r w' => r = .returned (.float .f64 v) ∧ Below W.heap.size W w') : Calls Tryd.prog 7 #[IV lo hi] w fun r w' => r = .returned (.float .f64 (mx u v)) ∧ Below w.heap.size w w' := by
  have hneg := neg6_flip (btLo lo hi) hlt
  have hneg2 := neg6_flip m hmt
  have HS0 := hid hs
  have HS20 := hid hs2
  have HM0 := hid hm
  have hmx := run_mx hu hv
  obtain ⟨M, hM⟩ : ∃ z, Hid (mx u v = z) := ⟨_, rfl⟩
  rw [hM.out] at hmx ⊢
  clear hs hs2 hm hlt hmt hu hv
  have g1 := inew w (IBox lo hi)
  have HB0 : Hid (Below w.heap.size w (w.alloc (IBox lo hi))) := (Below.refl _ _).alloc (Nat.le_refl _) _
  obtain ⟨W0, hW0⟩ : ∃ V, Hid (w.alloc (IBox lo hi) = V) := ⟨_, rfl⟩
  rw [hW0.out] at g1 HB0
  have HT := hid (taken_any lo hi W0)
  have HP : Hid (∀ W, Below W0.heap.size W0 W → BY ((W.setCell ⟨w.heap.size, 0, none⟩ (.float .f64 (btLo lo hi))).setCell ⟨w.heap.size, 1, none⟩ (.float .f64 (btHi lo hi))) w.heap.size (btLo lo hi) (btHi lo hi) ∧ Below w.heap.size w ((W.setCell ⟨w.heap.size, 0, none⟩ (.float .f64 (btLo lo hi))).setCell ⟨w.heap.size, 1, none⟩ (.float .f64 (btHi lo hi))) ∧ (∀ o, W.frozen? ⟨w.heap.size, o, none⟩ = false) ∧ W.cell? ⟨w.heap.size, 0, none⟩ = some (.float .f64 lo) ∧ W.cell? ⟨w.heap.size, 1, none⟩ = some (.float .f64 hi)) := fun W hW => by
    have k : BY W w.heap.size lo hi := BY.keep (W := W0) g1 hW
    exact ⟨k.put _ _, Below.setCell (Below.setCell (HB0.out.trans (hW.mono HB0.out.size)) (Nat.le_refl _) _) (Nat.le_refl _) _, k.cells.2.2, k.cells.1, k.cells.2.1⟩
  obtain ⟨y0, y1, y2⟩ := icells_of (show W0.heap[w.heap.size]? = some (.cells #[.float .f64 lo, .float .f64 hi] 28) from g1)
  obtain ⟨A, hA⟩ : ∃ z, Hid (btLo lo hi = z) := ⟨_, rfl⟩
  obtain ⟨B, hB⟩ : ∃ z, Hid (btHi lo hi = z) := ⟨_, rfl⟩
  rw [hA.out, hB.out] at HT HP hN HM0
  rw [hA.out] at hneg HS0
  rw [hB.out] at HS20
  unfold IBox at hW0
  have hW0' := hW0.out
  have hst := fstore
  unfold IV at HT ⊢
  clear g1
  go_enter Tryd.func7, Tryd.ntmps7
  go_wp2_with fail
  refine HT.out.mono ?_
  rintro r w1 ⟨rfl, hb1⟩
  obtain ⟨k0, k1, k2, k3, k4⟩ := HP.out w1 hb1
  obtain ⟨X, hX⟩ : ∃ X, Hid ((w1.setCell ⟨w.heap.size, 0, none⟩ (.float .f64 A)).setCell ⟨w.heap.size, 1, none⟩ (.float .f64 B) = X) := ⟨_, rfl⟩
  have hX' := hX.out
  rw [hX'] at k0 k1
  have HK0 := hid k0
  have HBX := hid k1
  obtain ⟨c0, c1, _⟩ := k0.cells
  have HXX : Hid (Below X.heap.size X X) := Below.refl _ _
  clear hb1 k0 k1
  have HN := hid (fr6 X _ _ _ HK0.out (fun W => none_any A B W))
  rw [hN] at HN
  have HS := hid (fr6 X _ _ _ HK0.out HS0.out)
  have HS2 := hid (fr6 X _ _ _ HK0.out HS20.out)
  have HMI := hid (fr6 X _ _ _ HK0.out HM0.out)
  unfold IV at HN HMI
  go_wp2_with fail
  refine (HN.out _ HXX).mono ?_
  rintro r w2 ⟨rfl, ⟨c2, c3⟩, HF2⟩
  go_wp2_with fail
  refine (HMI.out _ HF2).mono ?_
  rintro r w3 ⟨rfl, ⟨c4, c5⟩, HF3⟩
  have HKX : Hid (∀ W, Hid (Below X.heap.size X W) → (W.cell? ⟨w.heap.size, 0, none⟩ = some (.float .f64 A) ∧ W.cell? ⟨w.heap.size, 1, none⟩ = some (.float .f64 B)) ∧ Hid (Below X.heap.size X W)) := fun W hW => ⟨⟨(HK0.out.keep hW.out).cells.1, (HK0.out.keep hW.out).cells.2.1⟩, hW⟩
  have HQ3 : Hid (Below X.heap.size X w3.drew) := HF3.out.drew
  go_wp2_with fail
  go_region_held3 (fun W => (W.cell? ⟨w.heap.size, 0, none⟩ = some (.float .f64 A) ∧ W.cell? ⟨w.heap.size, 1, none⟩ = some (.float .f64 B)) ∧ Hid (Below X.heap.size X W))
    ((refine HKX.out _ ?_; first | with_reducible assumption | with_reducible exact HQ3 | with_reducible exact And.right (by assumption)))
    (first
      | (go_at_call 28; with_reducible refine (HS.out _ (And.right (by assumption))).mono ?_; rintro r w4 ⟨rfl, ⟨c6, c7⟩, HF4⟩)
      | (go_at_call 28; with_reducible refine (HS2.out _ (And.right (by assumption))).mono ?_; rintro r w5 ⟨rfl, ⟨c8, c9⟩, HF5⟩)
      | fail)
  go_wp2
  go_ret
  exact ⟨rfl, HBX.out.trans (HF5.out.mono HBX.out.size)⟩
end Go.Proofs.YtilffgmekeeohaaDoor
