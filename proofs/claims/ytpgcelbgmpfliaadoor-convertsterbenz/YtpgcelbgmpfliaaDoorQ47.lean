
/- Of blocks that hold numbers; Cmp by values. -/
import Derived.Test.YtpgcelbgmpfliaaDoorQ32
import Derived.Test.YtpgcelbgmpfliaaDoorQ46
import Derived.Test.YtpgcelbgmpfliaaDoorQ21
import Derived.Deep.Cut
namespace Go.Proofs.YtpgcelbgmpfliaaDoor
open Go.RowKit Go.IntWalk

theorem widen_sv (x : Nat) (hx : x < 4294967296) (hf : x % 2147483648 < 2139095040) : Fin64 (widenOf x) (sv32 x * (scl : Int)) ∧ (sv32 x * (scl : Int)).natAbs ≤ 2 ^ (23 + 254 + kcl) := by
  obtain ⟨w1, w2, w3, w4, w5⟩ := widen_num x hx (by omega)
  obtain ⟨v1, v2⟩ := mag64_val (x % 2147483648) hf
  have hw : widenOf x = signN (decide (2147483648 ≤ x)) (mag64 (x % 2147483648)) := by
    unfold widenOf
    rw [if_neg (by omega), if_neg (by omega)]
  have hsv : sv (widenOf x) = sv32 x * (scl : Int) := by
    rw [hw, sv_sign _ _ (by omega), v2]
    unfold sv32
    simp only [decide_eq_true_eq, Int.natCast_mul]
    split
    · rw [Int.neg_mul]
    · rfl
  have hb := (w4 hf).2
  rw [hsv] at hb
  refine ⟨⟨w1, ?_, hsv⟩, hb⟩
  rw [hw, (signN_mod _ _ (by omega)).1]
  exact v1
theorem sv32_flip (x : Nat) (hx : x < 4294967296) : sv32 (flip32 x) = -sv32 x := by
  obtain ⟨f1, f2, f3⟩ := flip_mod32 x hx
  unfold sv32
  rw [f1]
  unfold flip32
  split
  · rw [if_neg (by omega)]; omega
  · rw [if_pos (by omega)]
theorem nMag_sc (m k : Nat) (e mode : Int) (neg : Bool) (h0 : m ≠ 0) : nMag (m * 2 ^ k) (e - k) mode neg = nMag m e mode neg := by
  obtain ⟨g1, g2, g3, g4⟩ := rnd_scale 24 (-126) 127 m k e mode neg h0
  unfold nMag
  rw [g1, g2]
  by_cases c : rOver 24 (-126) 127 m e mode neg
  · rw [if_pos c, if_pos (g4.2 c)]
  · rw [if_neg c, if_neg (fun d => c (g4.1 d))]
/-- A sum of singles, in steps of 2^-149. -/
theorem Add_full (x y : Nat) (mode : Int) (w : World) (hx : x < 4294967296) (hy : y < 4294967296) (fx : x % 2147483648 < 2139095040) (fy : y % 2147483648 < 2139095040) (m1 : 0 ≤ mode) (m2 : mode ≤ 4) (hV : sv32 x + sv32 y ≠ 0) (hT : Tab w) (hs : 1 < w.heap.size) :
    Calls Tryd.prog 14 #[.float .f32 x, .float .f32 y, .int .i64 mode] w fun e w' => e = .returned (.tuple #[.float .f32 (signN32 (decide (sv32 x + sv32 y < 0)) (nMag (sv32 x + sv32 y).natAbs (-149) mode (decide (sv32 x + sv32 y < 0)))), .int .i64 (rFlag 24 (-126) 127 (sv32 x + sv32 y).natAbs (-149) mode (decide (sv32 x + sv32 y < 0))), .int .i64 0]) ∧ Below w.heap.size w w' := by
  obtain ⟨a1, a2⟩ := widen_sv x hx fx
  obtain ⟨b1, b2⟩ := widen_sv y hy fy
  have hk := kcl_is
  have hsp := scl_pos
  have e1 : sv32 x * (scl : Int) + sv32 y * (scl : Int) = (sv32 x + sv32 y) * (scl : Int) := by rw [Int.add_mul]
  have hne : sv32 x * (scl : Int) + sv32 y * (scl : Int) ≠ 0 := by
    rw [e1]
    exact Int.mul_ne_zero hV (by omega)
  refine Add_core x y _ mode _ w hx hy m1 m2 hT hs (fun w hT hs => ?_)
  have h := addition_full (widenOf x) (widenOf y) (23 + 254 + kcl) _ _ mode w (by omega) a1 b1 a2 b2 hne hT hs
  have e2 : (sv32 x * (scl : Int) + sv32 y * (scl : Int)).natAbs = (sv32 x + sv32 y).natAbs * 2 ^ kcl := by rw [e1, Int.natAbs_mul]; rfl
  have e3 : decide (sv32 x * (scl : Int) + sv32 y * (scl : Int) < 0) = decide (sv32 x + sv32 y < 0) := by
    rw [e1]
    apply decide_eq_decide.2
    have hp : (0 : Int) < (scl : Int) := by omega
    constructor
    · intro h
      exact Int.lt_of_mul_lt_mul_right (by rw [Int.zero_mul]; exact h) (Int.le_of_lt hp)
    · intro h
      have := Int.mul_lt_mul_of_pos_right h hp
      rw [Int.zero_mul] at this
      exact this
  have e4 : (-1074 : Int) = -149 - (kcl : Int) := by omega
  have hn : (sv32 x + sv32 y).natAbs ≠ 0 := by omega
  rw [e2, e3, e4, nMag_sc _ _ _ _ _ hn, (rnd_scale 24 (-126) 127 _ kcl (-149) mode _ hn).2.2.1] at h
  exact h
theorem Add_nil (x y : Nat) (mode : Int) (hx : x < 4294967296) (hy : y < 4294967296) (fx : x % 2147483648 < 2139095040) (fy : y % 2147483648 < 2139095040) (m1 : 0 ≤ mode) (m2 : mode ≤ 4) (hV : sv32 x + sv32 y = 0) : ∃ z, (z = 0 ∨ z = 2147483648) ∧ ∀ w, Tab w → 1 < w.heap.size →
    Calls Tryd.prog 14 #[.float .f32 x, .float .f32 y, .int .i64 mode] w fun e w' => e = .returned (.tuple #[.float .f32 z, .int .i64 0, .int .i64 0]) ∧ Below w.heap.size w w' := by
  obtain ⟨a1, a2⟩ := widen_sv x hx fx
  obtain ⟨b1, b2⟩ := widen_sv y hy fy
  obtain ⟨z, hz, h⟩ := addition_nil (widenOf x) (widenOf y) _ _ mode a1 b1 (by rw [← Int.add_mul, hV, Int.zero_mul])
  exact ⟨z, hz, fun w hT hs => Add_core x y z mode 0 w hx hy m1 m2 hT hs (fun w _ _ => h w)⟩
set_option maxHeartbeats 400000 in
theorem Sub_core (x y X : Nat) (mode Y E : Int) (w : World) (hy : y < 4294967296) (hT : Tab w) (hs : 1 < w.heap.size)
    (h : ∀ w, Tab w → 1 < w.heap.size → Calls Tryd.prog 14 #[.float .f32 x, .float .f32 (flip32 y), .int .i64 mode] w fun e w' => e = .returned (.tuple #[.float .f32 X, .int .i64 Y, .int .i64 E]) ∧ Below w.heap.size w w') :
    Calls Tryd.prog 19 #[.float .f32 x, .float .f32 y, .int .i64 mode] w fun e w' => e = .returned (.tuple #[.float .f32 X, .int .i64 Y, .int .i64 E]) ∧ Below w.heap.size w w' := by
  have hn := neg32_run y hy
  have H := hid h
  clear h
  go_enter Tryd.func19, Tryd.ntmps19
  go_wp2_with fail
  refine (H.out _ hT hs).mono ?_
  rintro r w1 ⟨rfl, b1⟩
  have B1 := hid b1
  clear b1
  go_wp2
  go_ret3
  exact ⟨rfl, B1.out⟩
theorem tE32_hi (x : Nat) (hf : x % 2147483648 < 2139095040) : tE32 x ≤ 104 ∧ -149 ≤ tE32 x := by
  unfold tE32
  split <;> omega
/-- Near one another: at most 24 digits. -/
theorem ster_near (x y : Nat) (fx : x % 2147483648 < 2139095040) (fy : y % 2147483648 < 2139095040) (h1 : nv32 (y % 2147483648) ≤ 2 * nv32 (x % 2147483648)) (h2 : nv32 (x % 2147483648) ≤ 2 * nv32 (y % 2147483648)) : ∃ d c : Nat, ((nv32 (x % 2147483648) : Int) - (nv32 (y % 2147483648) : Int)).natAbs = d * 2 ^ c ∧ d < 16777216 ∧ c ≤ 253 := by
  have tx := tVal32 x fx
  have ty := tVal32 y fy
  obtain ⟨x1, x2⟩ := tE32_hi x fx
  obtain ⟨y1, y2⟩ := tE32_hi y fy
  have gx : (tE32 x + ((149 : Nat) : Int)).toNat = (tE32 x - min (tE32 x) (tE32 y)).toNat + (min (tE32 x) (tE32 y) + 149).toNat := by omega
  have gy : (tE32 y + ((149 : Nat) : Int)).toNat = (tE32 y - min (tE32 x) (tE32 y)).toNat + (min (tE32 x) (tE32 y) + 149).toNat := by omega
  have hij : (tE32 x - min (tE32 x) (tE32 y)).toNat = 0 ∨ (tE32 y - min (tE32 x) (tE32 y)).toNat = 0 := by omega
  have hc : (min (tE32 x) (tE32 y) + 149).toNat ≤ 253 := by omega
  rw [gx, Nat.pow_add, ← Nat.mul_assoc] at tx
  rw [gy, Nat.pow_add, ← Nat.mul_assoc] at ty
  have lx := tM32_lt x
  have ly := tM32_lt y
  generalize (tE32 x - min (tE32 x) (tE32 y)).toNat = i at *
  generalize (tE32 y - min (tE32 x) (tE32 y)).toNat = j at *
  generalize (min (tE32 x) (tE32 y) + 149).toNat = c at *
  have hp := Nat.two_pow_pos c
  rw [← tx, ← ty] at h1 h2
  have k1 : tM32 y * 2 ^ j ≤ 2 * (tM32 x * 2 ^ i) := by
    rw [← Nat.mul_assoc] at h1
    exact Nat.le_of_mul_le_mul_right h1 hp
  have k2 : tM32 x * 2 ^ i ≤ 2 * (tM32 y * 2 ^ j) := by
    rw [← Nat.mul_assoc] at h2
    exact Nat.le_of_mul_le_mul_right h2 hp
  obtain ⟨s1, s2⟩ := sterb (tM32 x) (tM32 y) i j 16777216 lx ly hij k1 k2
  refine ⟨((tM32 x * 2 ^ i : Nat) - (tM32 y * 2 ^ j : Nat) : Int).natAbs, c, ?_, by omega, hc⟩
  rw [← tx, ← ty, Int.natCast_mul, Int.natCast_mul _ (2 ^ c), ← Int.sub_mul, Int.natAbs_mul]
  rfl
/-- What has 24 digits is narrowed as it is. -/
theorem exact24 (d c : Nat) (mode : Int) (neg : Bool) (hd : d < 16777216) (h0 : d ≠ 0) (hc : c ≤ 253) : rFlag 24 (-126) 127 (d * 2 ^ c) (-149) mode neg = 0 ∧ nMag (d * 2 ^ c) (-149) mode neg < 2139095040 ∧ nv32 (nMag (d * 2 ^ c) (-149) mode neg) = d * 2 ^ c := by
  have hl := bitLen_le d 24 (by simp only [Nat.reducePow]; exact hd)
  have e : (-149 : Int) = ((c : Int) - 149) - (c : Int) := by omega
  obtain ⟨f1, f2, f3, f4⟩ := fits_exact 24 (-126) 127 d ((c : Int) - 149) mode neg h0 (by omega) (by omega) (by omega)
  have hmag : nMag d ((c : Int) - 149) mode neg = mag32 (rSteps 24 (-126) d ((c : Int) - 149) mode neg) (rUnit 24 (-126) d ((c : Int) - 149)) := by unfold nMag; rw [if_neg f2]
  obtain ⟨g1, g2, g3⟩ := steps32 d ((c : Int) - 149) mode neg f2
  have hs0 : rSteps 24 (-126) d ((c : Int) - 149) mode neg ≠ 0 := by
    rw [f4]
    exact Nat.mul_ne_zero h0 (by have := Nat.two_pow_pos ((c : Int) - 149 - rUnit 24 (-126) d ((c : Int) - 149)).toNat; omega)
  obtain ⟨v1, v2⟩ := mag32_val _ _ hs0 g1 g2 g3
  rw [e, (rnd_scale 24 (-126) 127 d c ((c : Int) - 149) mode neg h0).2.2.1, nMag_sc d c ((c : Int) - 149) mode neg h0, hmag]
  refine ⟨f1, v1, ?_⟩
  rw [v2, f4, Nat.mul_assoc, ← Nat.pow_add]
  congr 2
  omega
/-- Sterbenz: the difference of what lies near is exact. -/
theorem Sub_near (x y : Nat) (mode : Int) (hx : x < 4294967296) (hy : y < 4294967296) (fx : x % 2147483648 < 2139095040) (fy : y % 2147483648 < 2139095040) (m1 : 0 ≤ mode) (m2 : mode ≤ 4) (hsg : decide (2147483648 ≤ x) = decide (2147483648 ≤ y)) (h1 : nv32 (y % 2147483648) ≤ 2 * nv32 (x % 2147483648)) (h2 : nv32 (x % 2147483648) ≤ 2 * nv32 (y % 2147483648)) : ∃ R, R < 4294967296 ∧ R % 2147483648 < 2139095040 ∧ sv32 R = sv32 x - sv32 y ∧ ∀ w, Tab w → 1 < w.heap.size →
    Calls Tryd.prog 19 #[.float .f32 x, .float .f32 y, .int .i64 mode] w fun e w' => e = .returned (.tuple #[.float .f32 R, .int .i64 0, .int .i64 0]) ∧ Below w.heap.size w w' := by
  obtain ⟨q1, q2, q3⟩ := flip_mod32 y hy
  have qs := sv32_flip y hy
  by_cases hV : sv32 x + sv32 (flip32 y) = 0
  · obtain ⟨z, hz, h⟩ := Add_nil x (flip32 y) mode hx q3 fx (by rw [q1]; exact fy) m1 m2 hV
    refine ⟨z, by omega, by omega, ?_, fun w hT hs => Sub_core x y z mode 0 0 w hy hT hs h⟩
    rw [qs] at hV
    have : sv32 z = 0 := by
      rcases hz with rfl | rfl <;> decide
    omega
  · obtain ⟨d, c, hd, hd2, hc⟩ := ster_near x y fx fy h1 h2
    have hab : (sv32 x + sv32 (flip32 y)).natAbs = d * 2 ^ c := by
      rw [← hd, qs]
      unfold sv32
      have := decide_eq_decide.1 hsg
      by_cases cx : 2147483648 ≤ x
      · rw [if_pos cx, if_pos (this.1 cx)]; omega
      · rw [if_neg cx, if_neg (fun h => cx (this.2 h))]; omega
    have hd0 : d ≠ 0 := by
      rintro rfl
      rw [Nat.zero_mul] at hab
      omega
    have h := fun (w : World) hT hs => Add_full x (flip32 y) mode w hx q3 fx (by rw [q1]; exact fy) m1 m2 hV hT hs
    obtain ⟨e1, e2, e3⟩ := exact24 d c mode (decide (sv32 x + sv32 (flip32 y) < 0)) hd2 hd0 hc
    rw [hab, e1] at h
    generalize nMag (d * 2 ^ c) (-149) mode (decide (sv32 x + sv32 (flip32 y) < 0)) = N at *
    obtain ⟨n1, n2, n3⟩ := signN_mod32 (decide (sv32 x + sv32 (flip32 y) < 0)) N (by omega)
    refine ⟨_, n3, by rw [n1]; exact e2, ?_, fun w hT hs => Sub_core x y _ mode 0 0 w hy hT hs h⟩
    have hsv : sv32 (signN32 (decide (sv32 x + sv32 (flip32 y) < 0)) N) = if sv32 x + sv32 (flip32 y) < 0 then -((d * 2 ^ c : Nat) : Int) else ((d * 2 ^ c : Nat) : Int) := by
      show (if 2147483648 ≤ signN32 (decide (sv32 x + sv32 (flip32 y) < 0)) N then -(nv32 (signN32 (decide (sv32 x + sv32 (flip32 y) < 0)) N % 2147483648) : Int) else (nv32 (signN32 (decide (sv32 x + sv32 (flip32 y) < 0)) N % 2147483648) : Int)) = _
      rw [n1, e3]
      have hn2 := decide_eq_decide.1 (n2.trans rfl : decide (2147483648 ≤ signN32 (decide (sv32 x + sv32 (flip32 y) < 0)) N) = decide (sv32 x + sv32 (flip32 y) < 0))
      by_cases cx : sv32 x + sv32 (flip32 y) < 0
      · rw [if_pos cx, if_pos (hn2.2 cx)]
      · rw [if_neg cx, if_neg (fun h => cx (hn2.1 h))]
    rw [hsv, ← hab, qs]
    split <;> omega
end Go.Proofs.YtpgcelbgmpfliaaDoor

namespace Go.Proofs.YtpgcelbgmpfliaaDoor
open Go.RowKit Go.IntWalk

set_option maxHeartbeats 400000 in
theorem f02_any (x : Nat) (w : World) :
    Calls Tryd.prog 9 #[.int .u64 x] w fun e w' => e = .returned (.float .f64 x) ∧ w' = w := by
  have h2 := f64from
  go_enter Tryd.func9, Tryd.ntmps9
  go_wp2
  go_ret
  exact ⟨rfl, rfl⟩
set_option maxHeartbeats 400000 in
theorem g02_any (x : Nat) (w : World) :
    Calls Tryd.prog 12 #[.int .u32 x] w fun e w' => e = .returned (.float .f32 x) ∧ w' = w := by
  have h2 := f64from32
  go_enter Tryd.func12, Tryd.ntmps12
  go_wp2
  go_ret
  exact ⟨rfl, rfl⟩
end Go.Proofs.YtpgcelbgmpfliaaDoor

namespace Go.Proofs.YtpgcelbgmpfliaaDoor
open Go.RowKit Go.IntWalk

theorem CmpFr.al {w : World} {n1 n2 : Bool} {z1 z2 : Nat} {E1 E2 : Int} {W : World} (h : CmpFr w n1 n2 z1 z2 E1 E2 W) (o : Obj) : CmpFr w n1 n2 z1 z2 E1 E2 (W.alloc o) := Below.alloc h h.all.2.2.2 o
theorem CmpFr.dr {w : World} {n1 n2 : Bool} {z1 z2 : Nat} {E1 E2 : Int} {W : World} (h : CmpFr w n1 n2 z1 z2 E1 E2 W) : CmpFr w n1 n2 z1 z2 E1 E2 W.drew := Below.drew h
theorem CmpFr.st {w : World} {n1 n2 : Bool} {z1 z2 : Nat} {E1 E2 : Int} {W : World} (h : CmpFr w n1 n2 z1 z2 E1 E2 W) {p : Nat} (hp : w.heap.size + 2 ≤ p) (o : Nat) (v : Value) : CmpFr w n1 n2 z1 z2 E1 E2 (W.setCell ⟨p, o, none⟩ v) := Below.setCell h hp v
/-- A number's block. -/
def Blk (W : World) (p : Nat) (n : Bool) (z : Nat) (E : Int) : Prop := W.heap[p]? = some (.cells #[.int .i64 0, .bool n, .pointer (some ⟨z, 0, none⟩), .int .i64 E] 38)
theorem bk_al {W : World} {p z : Nat} {n : Bool} {E : Int} (h : Blk W p n z E) (o : Obj) : Blk (W.alloc o) p n z E := blk_al h o
theorem bk_dr {W : World} {p z : Nat} {n : Bool} {E : Int} (h : Blk W p n z E) : Blk W.drew p n z E := h
theorem bk_new {z : Nat} {n : Bool} {E : Int} (W : World) (o : Obj) (p : Nat) (hp : p = W.heap.size ∧ o = .cells #[.int .i64 0, .bool n, .pointer (some ⟨z, 0, none⟩), .int .i64 E] 38) : Blk (W.alloc o) p n z E := by
  obtain ⟨h1, rfl⟩ := hp
  exact newblk W _ p h1
theorem ster_cmp (n1 n2 : Bool) (z1 m1 z2 m2 : Nat) (E1 E2 c a b : Int) (W : World) (h1 : NumAt W z1 (m1 : Int) 8000) (h2 : NumAt W z2 (m2 : Int) 8000) (e1 : -149 ≤ E1) (e2 : -149 ≤ E2) (f1 : E1 ≤ 200) (f2 : E2 ≤ 200) (ha : numV 149 n1 m1 E1 = a) (hb : numV 149 n2 m2 E2 = b) (hc : cmpZ a b = c) :
    Calls Tryd.prog 17 #[.agg #[.int .i64 0, .bool n1, .pointer (some ⟨z1, 0, none⟩), .int .i64 E1], .agg #[.int .i64 0, .bool n2, .pointer (some ⟨z2, 0, none⟩), .int .i64 E2]] W fun r w' => r = .returned (.int .i64 c) ∧ Below W.heap.size W w' := by
  have k := rCmpV 149 n1 n2 z1 m1 z2 m2 8000 E1 E2 W h1 h2 (by decide) (by omega) (by omega) (by omega) (by omega) (by decide)
  rw [ha, hb, hc] at k
  exact k
theorem blk_of {W : World} {p z : Nat} {n : Bool} {E : Int} {T : World} (h : T = ((((W.setCell ⟨p, 0, none⟩ (.int .i64 0)).setCell ⟨p, 1, none⟩ (.bool n)).setCell ⟨p, 2, none⟩ (.pointer (some ⟨z, 0, none⟩))).setCell ⟨p, 3, none⟩ (.int .i64 E))) (hz : W.heap[p]? = some (.cells #[.int .i64 0, .bool false, .pointer none, .int .i64 0] 38)) : Blk T p n z E := by
  rw [h]
  exact set4 hz
set_option maxHeartbeats 1000000 in
theorem rAmount_new (kind : Int) (n : Bool) (z : Option Addr) (E : Int) (w : World) :
    Calls Tryd.prog 16 #[.agg #[.int .i64 kind, .bool n, .pointer z, .int .i64 E]] w fun r w' => r = .returned (.agg #[.int .i64 kind, .bool false, .pointer z, .int .i64 E]) ∧ ∃ c1 T1 c2 T2, w' = (w.alloc (.cells c1 T1)).alloc (.cells c2 T2) := by
  go_enter Tryd.func16, Tryd.ntmps16
  go_wp2
  exact bodyPost_ret (v := .agg #[.int .i64 kind, .bool false, .pointer z, .int .i64 E]) (by simp [results, Tryd.results16, go_sem]) rfl ⟨rfl, _, _, _, _, rfl⟩
end Go.Proofs.YtpgcelbgmpfliaaDoor
