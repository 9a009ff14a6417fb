
/- What dyad's Sum does. -/
import Derived.Test.YtphdinjmkhefmaaGreatDoorP32
import Derived.Lib.Mul64
import Derived.Laws.Bits64b
namespace Go.Proofs.YtphdinjmkhefmaaGreatDoor
open Go.RowKit Go.IntWalk

/-- The sum of a list's numbers, in steps of 2^-1074. -/
def sumSv (zs : List Nat) : Nat → Int
  | 0 => 0
  | k + 1 => sumSv zs k + sv (zs.getD k 0)
def kS : Nat := 1074
theorem kS_is : kS = 1074 := rfl
/-- A list of numbers in memory. -/
def NumsAt (w : World) (b off : Nat) (zs : List Nat) : Prop := b < w.heap.size ∧ ∀ i, i < zs.length → w.cell? ⟨b, off + i, none⟩ = some (.float .f64 (zs.getD i 0))
theorem NumsAt.below {w w' : World} {b off : Nat} {zs : List Nat} (h : NumsAt w b off zs) (hb : Below w.heap.size w w') : NumsAt w' b off zs :=
  ⟨Nat.lt_of_lt_of_le h.1 hb.size, fun i hi => by rw [hb.cell (p := ⟨b, off + i, none⟩) h.1]; exact h.2 i hi⟩
theorem NumsAt.but {w w' : World} {b off z : Nat} {zs : List Nat} (h : NumsAt w b off zs) (hb : But z w w') (hz : b ≠ z) : NumsAt w' b off zs :=
  ⟨Nat.lt_of_lt_of_le h.1 hb.size, fun i hi => hb.cell (h.2 i hi) hz⟩
def FinL (zs : List Nat) : Prop := ∀ i, i < zs.length → zs.getD i 0 < 18446744073709551616 ∧ zs.getD i 0 % 9223372036854775808 < 9218868437227405312
theorem exp_fin (x : Nat) (h : x % 9223372036854775808 < 9218868437227405312) : (expOf x == 2047) = false := by
  rw [beq_eq_false_iff_ne]
  unfold expOf canonOf
  split <;> omega
theorem fin_take (zs : List Nat) (h : FinL zs) : ∀ k, k ≤ zs.length → allFin (zs.take k) = true
  | 0, _ => rfl
  | k + 1, hk => by
    rw [allFin_take zs k hk, fin_take zs h k (by omega), exp_fin _ (h k hk).2]
    rfl
theorem fin_all (zs : List Nat) (h : FinL zs) : allFin zs = true := by
  have := fin_take zs h zs.length (Nat.le_refl _)
  rwa [List.take_of_length_le (Nat.le_refl _)] at this
/-- One number more. -/
theorem sum_put (zs : List Nat) (b k : Nat) (W0 w : World) (h : AccI W0 b (sumSv zs k * 2 ^ kS) k w) (hf : FinL zs) (hk : k < zs.length) (hn : zs.length < 18446744073709551616) :
    Calls Tryz.prog 16 #[.pointer (some ⟨b, 0, none⟩), .bool (pNeg (zs.getD k 0)), .int .u64 0, .int .u64 (pMant (zs.getD k 0)), .int .i64 (pExp (zs.getD k 0))] w fun r w' => r = .returned (.tuple #[]) ∧ AccI W0 b (sumSv zs (k + 1) * 2 ^ kS) (k + 1) w' := by
  obtain ⟨x1, x2⟩ := hf k hk
  obtain ⟨x, hx⟩ : ∃ x, zs.getD k 0 = x := ⟨_, rfl⟩
  have hs : sumSv zs (k + 1) = sumSv zs k + sv x := by rw [← hx]; rfl
  rw [hs]
  rw [hx] at x1 x2 ⊢
  obtain ⟨j, j1, j2, j3, j4, j5, j6, j7⟩ := sv_parts x x2
  have hkS := kS_is
  have habs : pMant x * 2 ^ j = (sv x).natAbs := by
    rw [← j1, Int.natAbs_mul, Int.natAbs_pow]
    congr 1
    unfold sgnN
    split <;> simp
  have hv : (pMant x + 18446744073709551616 * 0) * 2 ^ (j + kS) < 2 ^ kT := by
    rw [Nat.mul_zero, Nat.add_zero, Nat.pow_add, ← Nat.mul_assoc, habs]
    refine Nat.lt_of_lt_of_le (Nat.mul_lt_mul_of_pos_right j3 (Nat.two_pow_pos kS)) ?_
    rw [← Nat.pow_add]
    exact Nat.pow_le_pow_right (by decide) (by decide)
  have hp := acc_put (pNeg x) b (pMant x) 0 (j + kS) k (pExp x) _ W0 w h j7 (by decide) (by omega) (by omega) hv (by omega)
  refine hp.mono ?_
  rintro r w' ⟨rfl, ha⟩
  refine ⟨rfl, ?_⟩
  have e : sgnN (pNeg x) ((pMant x + 18446744073709551616 * 0) * 2 ^ (j + kS)) = sv x * 2 ^ kS := by
    rw [← j1, Nat.mul_zero, Nat.add_zero, Int.mul_assoc, ← Int.pow_add]
    unfold sgnN
    split
    · rw [Int.natCast_mul, Int.natCast_pow, Int.neg_mul]; rfl
    · rw [Int.natCast_mul, Int.natCast_pow]; rfl
  rw [e, ← Int.add_mul] at ha
  exact ha
set_option maxRecDepth 20000 in
theorem zero_tot : Tryz.zeroCells48 = Array.replicate 268 (.int .u32 0) := by rfl
/-- A new total. -/
theorem acc_new (w : World) : AccI (w.alloc (.cells Tryz.zeroCells48 48)) w.heap.size 0 0 (w.alloc (.cells Tryz.zeroCells48 48)) := by
  refine ⟨fun _ => 0, ⟨?_, fun _ => (by decide : 0 < 4294967296)⟩, ?_, ?_, ?_, But.refl _ _⟩
  · have := World.rowIs_alloc w (Array.replicate 268 (.int .u32 0)) 48 (fun _ => .int .u32 0) (fun i hi => by simp at hi; simp [hi])
    rw [Array.size_replicate] at this
    rw [zero_tot]
    exact this
  · show (natF (fun _ => 0) 134 : Int) - (natF (fun _ => 0) 134 : Int) = 0
    omega
  · show natF (fun _ => 0) 134 ≤ _
    rw [natF_zero]; exact Nat.zero_le _
  · show natF (fun _ => 0) 134 ≤ _
    rw [natF_zero]; exact Nat.zero_le _
/-- The end of an adding up. -/
theorem acc_end {W0 wr w : World} {t k : Nat} {S : Int} (h : AccI W0 t S k wr) (h0 : Below w.heap.size w W0) (ht : w.heap.size < t) (hbx : W0.heap[w.heap.size]? = some (DyBox false none 0 0 0)) (hT3 : Tab32 w) (hs : 1 < w.heap.size) :
    Calls Tryz.prog 17 #[.pointer (some ⟨t, 0, none⟩)] wr fun r w' => ∃ neg' a' n' cap' e' v0 v1 v2, r = .returned (.tuple #[.agg #[.bool neg', .slice a' n' cap', .int .i64 e'], .int .i64 0]) ∧ Hid (DyRet S (-2148) (w.heap.size + 1) neg' a' n' cap' e' w') ∧ Hid (Res w.heap.size wr w') ∧ Hid (Below w.heap.size w wr) ∧ (∀ o, w'.frozen? ⟨w.heap.size, o, none⟩ = false) ∧ w'.cell? ⟨w.heap.size, 0, none⟩ = some v0 ∧ w'.cell? ⟨w.heap.size, 1, none⟩ = some v1 ∧ w'.cell? ⟨w.heap.size, 2, none⟩ = some v2 := by
  obtain ⟨o, h1, h2, h3, h4, h5⟩ := h
  have hlt : w.heap.size < W0.heap.size := (Array.getElem?_eq_some_iff.1 hbx).1
  have hbw : Below w.heap.size w wr := h0.trans (h5.below (Nat.le_of_lt hlt) (Nat.le_of_lt ht))
  have hbx2 : wr.heap[w.heap.size]? = some (DyBox false none 0 0 0) := by rw [h5.block _ hlt (by omega)]; exact hbx
  refine (tdyad_any t o wr h1 (hT3.below hs hbw) (Nat.lt_of_lt_of_le hs hbw.size)).mono ?_
  rintro r w' ⟨ho, hb⟩
  rw [h2] at ho
  obtain ⟨neg', a', n', cap', e', rfl, hr⟩ := ho.ret
  have hres : Res w.heap.size wr w' := Res.call ⟨But.refl _ _, _, _, _, hbx2⟩ hb
  obtain ⟨f1, _, v0, v1, v2, f2, f3, f4⟩ := hres.facts
  have hlt2 : w.heap.size < wr.heap.size := (Array.getElem?_eq_some_iff.1 hbx2).1
  exact ⟨neg', a', n', cap', e', v0, v1, v2, rfl, DyOut.but hr (But.refl w.heap.size _) hlt2 hlt2, hres, hbw, f1, f2, f3, f4⟩
set_option maxRecDepth 8000 in
set_option maxHeartbeats 4000000 in
theorem Sum_fin (zs : List Nat) (b off cap : Nat) (w : World) (hm : NumsAt w b off zs) (hf : FinL zs) (hn : zs.length ≤ 140737488355328) (hT : Tab w) (hg : 2 < w.heap.size) (hT3 : Tab32 w) (hs : 1 < w.heap.size) :
    Calls Tryz.prog 5 #[.slice (some ⟨b, off, none⟩) zs.length cap] w fun r w' => DyOut (sumSv zs zs.length) (-1074) w.heap.size r w' ∧ Below w.heap.size w w' := by
  have HM := hid hm
  have HF := hid hf
  have HFI : Hid (∀ W, Below w.heap.size w W → Calls Tryz.prog 14 #[.slice (some ⟨b, off, none⟩) zs.length cap] W fun r w' => r = .returned (.bool true) ∧ Below W.heap.size W w') := fun W hW => by
    have hmW := hm.below hW
    have := Finite_any zs b off cap W hmW.1 hmW.2 (fun i hi => (hf i hi).1) hn
    rw [fin_all zs hf] at this
    exact this
  obtain ⟨n, hnl⟩ : ∃ n, Hid (zs.length = n) := ⟨_, rfl⟩
  rw [hnl.out] at HFI hn ⊢
  have HT := hid (And.intro hT (And.intro hg (And.intro hT3 hs)))
  have hblt := hm.1
  clear hm hf hT hg hT3 hs
  go_enter Tryz.func5, Tryz.ntmps5
  go_wp2_with fail
  refine (HFI.out _ ((Below.refl _ _).alloc (Nat.le_refl _) _)).mono ?_
  rintro r w1 ⟨rfl, hb1⟩
  have hsz : w.heap.size < w1.heap.size := by have := hb1.size; simp at this; omega
  have HBW1 : Hid (Below w.heap.size w w1) := ((Below.refl _ _).alloc (Nat.le_refl _) _).trans (hb1.mono (by simp))
  have hbx1 : w1.heap[w.heap.size]? = some (DyBox false none 0 0 0) := by rw [hb1.block _ (by simp)]; exact new_blk _ _ _ rfl
  have HA0 := hid (acc_new w1)
  obtain ⟨W0, hW0⟩ : ∃ W0, Hid (w1.alloc (.cells Tryz.zeroCells48 48) = W0) := ⟨_, rfl⟩
  have hW0' : w1.alloc (.cells Tryz.zeroCells48 48) = W0 := hW0.out
  rw [hW0'] at HA0
  have HB0 : Hid (Below w.heap.size w W0) := by rw [← hW0.out]; exact HBW1.out.alloc HBW1.out.size _
  have HX0 : Hid (W0.heap[w.heap.size]? = some (DyBox false none 0 0 0)) := by rw [← hW0.out]; show (w1.alloc _).heap[w.heap.size]? = _; rw [((Below.refl w1.heap.size w1).alloc (Nat.le_refl _) _).block _ hsz]; exact hbx1
  have HWR : Hid (∀ S k wr, Hid (AccI W0 w1.heap.size S k wr) → Below w.heap.size w wr ∧ NumsAt wr b off zs) := fun S k wr h => by
    obtain ⟨o, g1, g2, g3, g4, g5⟩ := h.out
    have hlt : w.heap.size ≤ W0.heap.size := HB0.out.size
    exact ⟨HB0.out.trans (g5.below hlt (Nat.le_of_lt hsz)), (HM.out.below HB0.out).but g5 (by omega)⟩
  have HPO : Hid (∀ W k, k < n → Below w.heap.size w W → Calls Tryz.prog 15 #[.float .f64 (zs.getD k 0)] W fun r w' => r = .returned (.agg #[.bool (pNeg (zs.getD k 0)), .int .u64 (pMant (zs.getD k 0)), .int .i64 (pExp (zs.getD k 0))]) ∧ Below W.heap.size W w') := fun W k hk hW => partsOf_dy _ W (HF.out k (by rw [hnl.out]; exact hk)).1 (HT.out.1.below HT.out.2.1 hW) (Nat.lt_of_lt_of_le HT.out.2.1 hW.size)
  have HEND : Hid (∀ wr, Hid (AccI W0 w1.heap.size (sumSv zs n * 2 ^ kS) n wr) → _) := fun wr h => acc_end h.out HB0.out hsz HX0.out HT.out.2.2.1 HT.out.2.2.2
  clear hb1 hbx1 HFI
  go_wp2
  go_loopw [14] (fun i wr => ∃ k : Nat, k ≤ n ∧ i = .int .i64 k ∧ Hid (AccI W0 w1.heap.size (sumSv zs k * 2 ^ kS) k wr)) (fun i _ => n - (intOf i).toNat)
  case atStart => exact ⟨0, Nat.zero_le _, rfl, by show AccI _ _ (0 * 2 ^ kS) _ _; rw [Int.zero_mul]; exact HA0.out⟩
  case round =>
    obtain ⟨k, hk, rfl, HA⟩ := hrel
    by_cases hlt : k < n
    · obtain ⟨hbw, hnm⟩ := HWR.out _ _ _ HA
      have HBW := hid hbw
      have hck := hnm.2 k (by rw [hnl.out]; exact hlt)
      have HP := hid (HPO.out wr k hlt hbw)
      have HPUT : Hid (∀ W, Hid (AccI W0 w1.heap.size (sumSv zs k * 2 ^ kS) k W) → Calls Tryz.prog 16 #[.pointer (some ⟨w1.heap.size, 0, none⟩), .bool (pNeg (zs.getD k 0)), .int .u64 0, .int .u64 (pMant (zs.getD k 0)), .int .i64 (pExp (zs.getD k 0))] W fun r w' => r = .returned (.tuple #[]) ∧ AccI W0 w1.heap.size (sumSv zs (k + 1) * 2 ^ kS) (k + 1) w') := fun W hW => sum_put zs w1.heap.size k W0 W hW.out HF.out (by rw [hnl.out]; exact hlt) (by rw [hnl.out]; omega)
      obtain ⟨N, hN⟩ : ∃ N, Hid (pNeg (zs.getD k 0) = N) := ⟨_, rfl⟩
      obtain ⟨m, hm⟩ : ∃ m, Hid (pMant (zs.getD k 0) = m) := ⟨_, rfl⟩
      obtain ⟨E, hE⟩ : ∃ E, Hid (pExp (zs.getD k 0) = E) := ⟨_, rfl⟩
      rw [hN.out, hm.out, hE.out] at HP HPUT
      obtain ⟨x, hx⟩ : ∃ x, Hid (zs.getD k 0 = x) := ⟨_, rfl⟩
      rw [hx.out] at hck HP
      have hkI : (k : Int) < (n : Int) := by omega
      have hk0 : (0 : Int) ≤ (k : Int) := by omega
      clear hbw hnm
      go_wp2_with fail
      refine HP.out.mono ?_
      rintro r w2 ⟨rfl, hb2⟩
      obtain ⟨V, hV⟩ : ∃ V, Hid (w2.alloc (.cells #[.bool N, .int .u64 m, .int .i64 E] 50) = V) := ⟨_, rfl⟩
      have hV' : w2.alloc (.cells #[.bool N, .int .u64 m, .int .i64 E] 50) = V := hV.out
      have HAV : Hid (AccI W0 w1.heap.size (sumSv zs k * 2 ^ kS) k V) := by rw [← hV.out]; exact HA.out.below (hb2.alloc hb2.size _)
      have hbp : V.heap[w2.heap.size]? = some (.cells #[.bool N, .int .u64 m, .int .i64 E] 50) := by rw [← hV.out]; exact new_blk _ _ _ rfl
      have y0 : V.cell? ⟨w2.heap.size, 0, none⟩ = some (.bool N) := by simp [World.cell?, hbp]
      have y1 : V.cell? ⟨w2.heap.size, 1, none⟩ = some (.int .u64 m) := by simp [World.cell?, hbp]
      have y2 : V.cell? ⟨w2.heap.size, 2, none⟩ = some (.int .i64 E) := by simp [World.cell?, hbp]
      clear hb2 hbp
      go_wp2_with fail
      refine (HPUT.out _ HAV).mono ?_
      rintro r w3 ⟨rfl, ha3⟩
      have HA3 := hid ha3
      clear ha3
      go_wp2
      refine ⟨⟨k + 1, by omega, by go_num, HA3⟩, ?_⟩
      simp [intOf]; omega
    · have hkn : k = n := by omega
      subst hkn
      go_wp2_with fail
      refine (HEND.out _ HA).mono ?_
      rintro r w3 ⟨neg', b', k', d', x', v0, v1, v2, rfl, HRT, HF3, HBB, fz, c0, c1', c2'⟩
      have HRT2 : Hid (DyRet (sumSv zs k) (-1074) (w.heap.size + 1) neg' b' k' d' x' w3) := DyOut.conv (i := 0) (j := kS) HRT.out (by rw [Int.pow_zero, Int.mul_one]) (by rw [kS_is]; rfl)
      go_wp2
      exact bodyPost_ret (v := .tuple #[.agg #[.bool neg', .slice b' k' d', .int .i64 x'], .int .i64 0]) (by simp [results, Tryz.results5, go_sem, c0, c1', c2']) rfl (res_end HBB.out (Nat.le_refl _) HRT2 HF3)
end Go.Proofs.YtphdinjmkhefmaaGreatDoor

namespace Go.Proofs.YtphdinjmkhefmaaGreatDoor
open Go.RowKit Go.IntWalk

theorem low32 (a : Nat) (ha : a < 18446744073709551616) : bits .and .u64 (a : Int) 4294967295 = ((a % 4294967296 : Nat) : Int) := by
  have h := bits_and_u64_nat a 4294967295 ha (by omega)
  rw [show a &&& 4294967295 = a % 4294967296 from Nat.and_two_pow_sub_one_eq_mod a 32] at h
  exact h
theorem nat_quo (a : Nat) : (a : Int) / 4294967296 = ((a / 4294967296 : Nat) : Int) := by omega
theorem nat_mul (a b : Nat) : (a : Int) * (b : Int) = ((a * b : Nat) : Int) := (Int.natCast_mul a b).symm
theorem nat_add (a b : Nat) : (a : Int) + (b : Int) = ((a + b : Nat) : Int) := (Int.natCast_add a b).symm
theorem nat_wrap (a : Nat) : IntKind.u64.wrap (a : Int) = ((a % 18446744073709551616 : Nat) : Int) := by rw [IntKind.wrap_u64]; omega
theorem nat_in (a : Nat) (ha : a < 18446744073709551616) : IntKind.u64.wrap (a : Int) = (a : Int) := by rw [nat_wrap, Nat.mod_eq_of_lt ha]
set_option maxHeartbeats 1000000 in
theorem Mul64_dy (x y : Nat) (w : World) (hx : x < 18446744073709551616) (hy : y < 18446744073709551616) :
    Calls Tryz.prog 18 #[.int .u64 x, .int .u64 y] w fun r w' => r = .returned (.tuple #[.int .u64 ((x * y / 18446744073709551616 : Nat) : Int), .int .u64 ((x * y % 18446744073709551616 : Nat) : Int)]) ∧ w' = w := by
  obtain ⟨k1, k2, k3, k4⟩ := Go.Lib.mul64_hi x y hx hy
  have m1 := Go.Lib.half_mul_le (a := x / 4294967296) (b := y / 4294967296) (by omega) (by omega)
  have m2 := Go.Lib.half_mul_le (a := x / 4294967296) (b := y % 4294967296) (by omega) (by omega)
  have m3 := Go.Lib.half_mul_le (a := x % 4294967296) (b := y / 4294967296) (by omega) (by omega)
  have n1 : x / 4294967296 * (y / 4294967296) < 18446744073709551616 := by omega
  have n2 : x / 4294967296 * (y % 4294967296) < 18446744073709551616 := by omega
  have n3 : x % 4294967296 * (y / 4294967296) < 18446744073709551616 := by omega
  have n4 : x / 4294967296 * (y / 4294967296) + (x / 4294967296 * (y % 4294967296) + x % 4294967296 * (y % 4294967296) / 4294967296) / 4294967296 < 18446744073709551616 := by omega
  have n5 : x / 4294967296 * (y / 4294967296) + (x / 4294967296 * (y % 4294967296) + x % 4294967296 * (y % 4294967296) / 4294967296) / 4294967296 + ((x / 4294967296 * (y % 4294967296) + x % 4294967296 * (y % 4294967296) / 4294967296) % 4294967296 + x % 4294967296 * (y / 4294967296)) / 4294967296 < 18446744073709551616 := by omega
  go_enter Tryz.func18, Tryz.ntmps18
  go_wp2
  simp only [low32 x hx, low32 y hy, nat_quo, nat_mul, nat_add, nat_in _ k1, nat_in _ n2, nat_in _ k2, low32 _ k2, nat_in _ n3, nat_in _ k3, nat_in _ n1, nat_in _ n4, nat_in _ n5, nat_wrap (x * y)]
  rw [k4]
  go_ret2
  exact ⟨rfl, rfl⟩
/-- The sum of products of two lists' numbers, in steps of 2^-2148. -/
def dotSv (xs ys : List Nat) : Nat → Int
  | 0 => 0
  | k + 1 => dotSv xs ys k + sv (xs.getD k 0) * sv (ys.getD k 0)
theorem sgn_abs (n : Bool) (m j : Nat) (s : Int) (h : sgnN n m * 2 ^ j = s) : m * 2 ^ j = s.natAbs := by
  rw [← h, Int.natAbs_mul, Int.natAbs_pow]
  congr 1
  unfold sgnN
  split <;> simp
theorem sgn_prod (n1 n2 : Bool) (m1 m2 : Nat) : sgnN (n1 != n2) (m1 * m2) = sgnN n1 m1 * sgnN n2 m2 := by
  unfold sgnN
  cases n1 <;> cases n2 <;> simp [Int.mul_neg, Int.neg_mul]
theorem sgn_pow (n : Bool) (m j : Nat) : sgnN n (m * 2 ^ j) = sgnN n m * 2 ^ j := by
  unfold sgnN
  split
  · rw [Int.natCast_mul, Int.natCast_pow, Int.neg_mul]; rfl
  · rw [Int.natCast_mul, Int.natCast_pow]; rfl
theorem pexp_small (x : Nat) (hf : x % 9223372036854775808 < 9218868437227405312) : pExp x ≤ 1023 := by
  obtain ⟨v1, v2, v3, v4, v5⟩ := parts_val x hf
  by_cases h0 : mantOf x = 0
  · have hp : pExp x = 0 := by unfold pExp; rw [if_pos (Or.inr h0)]
    omega
  · obtain ⟨p1, p2, p3, p4, p5, p6⟩ := v5 h0
    have hbp := bitLen_pos p1
    omega
/-- One product more. -/
theorem dot_put (x y b k : Nat) (S : Int) (W0 w : World) (h : AccI W0 b S k w) (hx : x % 9223372036854775808 < 9218868437227405312) (hy : y % 9223372036854775808 < 9218868437227405312) (hk : k < 18446744073709551616) :
    Calls Tryz.prog 16 #[.pointer (some ⟨b, 0, none⟩), .bool (pNeg x != pNeg y), .int .u64 ((pMant x * pMant y / 18446744073709551616 : Nat) : Int), .int .u64 ((pMant x * pMant y % 18446744073709551616 : Nat) : Int), .int .i64 (pExp x + pExp y)] w fun r w' => r = .returned (.tuple #[]) ∧ AccI W0 b (S + sv x * sv y) (k + 1) w' := by
  obtain ⟨i, i1, i2, i3, i4, i5, i6, i7⟩ := sv_parts x hx
  obtain ⟨j, j1, j2, j3, j4, j5, j6, j7⟩ := sv_parts y hy
  have a1 := sgn_abs _ _ _ _ i1
  have a2 := sgn_abs _ _ _ _ j1
  have eV : pMant x * pMant y % 18446744073709551616 + 18446744073709551616 * (pMant x * pMant y / 18446744073709551616) = pMant x * pMant y := Nat.mod_add_div _ _
  have hlt : pMant x * pMant y < 18446744073709551616 * 18446744073709551616 := Nat.mul_lt_mul'' i7 j7
  have eP : pMant x * pMant y * 2 ^ (i + j) = pMant x * 2 ^ i * (pMant y * 2 ^ j) := by rw [Nat.pow_add, Nat.mul_mul_mul_comm]
  have hv : (pMant x * pMant y % 18446744073709551616 + 18446744073709551616 * (pMant x * pMant y / 18446744073709551616)) * 2 ^ (i + j) < 2 ^ kT := by
    rw [eV, eP, a1, a2]
    have h1 : (sv x).natAbs * (sv y).natAbs < 2 ^ kN * 2 ^ kN := Nat.mul_lt_mul'' i3 j3
    rw [← Nat.pow_add] at h1
    rw [show kT = kN + kN from rfl]
    exact h1
  have q1 := pexp_small x hx
  have q2 := pexp_small y hy
  have hp := acc_put (pNeg x != pNeg y) b (pMant x * pMant y % 18446744073709551616) (pMant x * pMant y / 18446744073709551616) (i + j) k (pExp x + pExp y) S W0 w h (Nat.mod_lt _ (by decide)) (Nat.div_lt_of_lt_mul hlt) (by omega) (by omega) hv hk
  refine hp.mono ?_
  rintro r w' ⟨rfl, ha⟩
  refine ⟨rfl, ?_⟩
  have e : sgnN (pNeg x != pNeg y) ((pMant x * pMant y % 18446744073709551616 + 18446744073709551616 * (pMant x * pMant y / 18446744073709551616)) * 2 ^ (i + j)) = sv x * sv y := by
    rw [eV, sgn_pow, sgn_prod, ← i1, ← j1, Int.pow_add]
    rw [Int.mul_assoc, Int.mul_assoc]
    congr 1
    rw [← Int.mul_assoc, ← Int.mul_assoc, Int.mul_comm (sgnN _ _) (2 ^ i)]
  rw [e] at ha
  exact ha
end Go.Proofs.YtphdinjmkhefmaaGreatDoor
