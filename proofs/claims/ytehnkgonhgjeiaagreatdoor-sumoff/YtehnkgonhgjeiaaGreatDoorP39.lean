
/- The document's minus. -/
import Derived.Test.YtehnkgonhgjeiaaGreatDoorP36
import Derived.Test.YtehnkgonhgjeiaaGreatDoorP31
import Derived.Test.YtehnkgonhgjeiaaGreatDoorP38
import Derived.Test.YtehnkgonhgjeiaaGreatDoorP37
import Derived.BigQuiet
import Derived.Deep.QuietTactic
import Derived.Test.YtehnkgonhgjeiaaGreatDoorP17
import Derived.Test.YtehnkgonhgjeiaaGreatDoorP22
namespace Go.Proofs.YtehnkgonhgjeiaaGreatDoor
open Go.RowKit Go.IntWalk

theorem NumAt.ne_x {W : World} {p b bd : Nat} {v e : Int} {q : Option Addr} (h : NumAt W p v bd) (hb : W.heap[b]? = some (XBox q e)) : p ≠ b := by
  intro c
  subst c
  obtain ⟨neg, L, _, _, a, cap, ho, _⟩ := h
  rw [ho] at hb
  unfold XBox at hb
  simp at hb
theorem ExV.stored {W : World} {p b bd : Nat} {e B z e0 : Int} {q : Option Addr} (h : ExV W p e B z bd) (hb : W.heap[b]? = some (XBox q e0)) (x y : Value) : ExV ((W.setCell ⟨b, 0, none⟩ x).setCell ⟨b, 1, none⟩ y) p e B z bd := by
  obtain ⟨v, k, f1, f2, f3⟩ := h
  exact ⟨v, k, f1.stored (f1.ne_x hb) hb x y, f2, f3⟩
theorem rb_of {w W : World} (h : Below (w.alloc (XBox none 0)).heap.size (w.alloc (XBox none 0)) W) : W.heap[w.heap.size]? = some (XBox none 0) := by
  rw [h.block _ (by simp)]
  exact new_blk _ _ _ rfl
end Go.Proofs.YtehnkgonhgjeiaaGreatDoor

namespace Go.Proofs.YtehnkgonhgjeiaaGreatDoor
open Go.RowKit Go.IntWalk

theorem NumAt.tight {w : World} {p bd : Nat} {v : Int} (h : NumAt w p v bd) (k : Nat) (hv : v.natAbs < 4294967296 ^ k) : NumAt w p v k := by
  obtain ⟨neg, L, h1, h2, h3⟩ := h
  refine ⟨neg, L, h1, ?_, h3⟩
  obtain ⟨a, cap, ho, hcap, hm, hd, hc, hn⟩ := h3
  refine len_small L k hc ?_
  have : v.natAbs = natL L := by rw [← h1]; unfold intL; split <;> omega
  rw [← this]
  exact hv
theorem ExV.tight {w : World} {p bd : Nat} {e B z : Int} (h : ExV w p e B z bd) (k : Nat) (hz : z.natAbs < 4294967296 ^ k) : ExV w p e B z k := by
  obtain ⟨v, j, h1, h2, h3⟩ := h
  refine ⟨v, j, h1.tight k ?_, h2, h3⟩
  have e : z.natAbs = v.natAbs * 2 ^ j := by rw [h3, Int.natAbs_mul, Int.natAbs_pow]; rfl
  have : v.natAbs * 1 ≤ v.natAbs * 2 ^ j := Nat.mul_le_mul_left _ (Nat.two_pow_pos j)
  omega
theorem sum_le (zs : List Nat) (hf : FinL zs) : ∀ k, k ≤ zs.length → (sumSv zs k).natAbs ≤ k * 2 ^ kN
  | 0, _ => by show (0 : Int).natAbs ≤ _; simp
  | k + 1, hk => by
    have ih := sum_le zs hf k (by omega)
    obtain ⟨_, _, _, j3, _⟩ := sv_parts (zs.getD k 0) (hf k (by omega)).2
    show (sumSv zs k + sv (zs.getD k 0)).natAbs ≤ (k + 1) * 2 ^ kN
    rw [Nat.add_mul, Nat.one_mul]
    omega
theorem pw32 (m : Nat) : (4294967296 : Nat) ^ m = 2 ^ (32 * m) := by rw [show (4294967296 : Nat) = 2 ^ 32 by decide, ← Nat.pow_mul]
theorem small_bd (n k m : Nat) (hn : n ≤ 17592186044416) (h : k + 44 < 32 * m) : n * 2 ^ k < 4294967296 ^ m := by
  rw [pw32]
  have h1 : n * 2 ^ k ≤ 2 ^ (44 + k) := by rw [Nat.pow_add]; exact Nat.mul_le_mul_right _ (by rw [show (2 : Nat) ^ 44 = 17592186044416 by decide]; exact hn)
  exact Nat.lt_of_le_of_lt h1 (Nat.pow_lt_pow_right (by decide) (by omega))
set_option maxRecDepth 4000 in
set_option maxHeartbeats 1000000 in
theorem xZero_any (w : World) : Calls Tryz.prog 64 #[] w fun r w' => ∃ q, r = .returned (.agg #[.pointer (some ⟨q, 0, none⟩), .int .i64 0]) ∧ NumAt w' q 0 0 ∧ Below w.heap.size w w' := by
  go_enter Tryz.func64, Tryz.ntmps64
  go_wp2
  have h1 := fresh_num (w.alloc (XBox (some ⟨w.heap.size + 1, 0, none⟩) 0))
  rw [show (w.alloc (XBox (some ⟨w.heap.size + 1, 0, none⟩) 0)).heap.size = w.heap.size + 1 by simp] at h1
  exact bodyPost_ret (v := .agg #[.pointer (some ⟨w.heap.size + 1, 0, none⟩), .int .i64 0]) (by simp [results, Tryz.results64, go_sem]) rfl ⟨w.heap.size + 1, rfl, h1, ((Below.refl _ _).alloc (Nat.le_refl _) _).alloc (by simp) _⟩
/-- What is kept while a list is added up: the sum's box, the result's. -/
def SumW (w W0 wr : World) (sb : Nat) (z B hi : Int) : Prop := ∃ p e, wr.heap[sb]? = some (XBox (some ⟨p, 0, none⟩) e) ∧ ExV wr p e B z 200 ∧ (B ≤ e ∧ e ≤ hi) ∧ Below w.heap.size w wr ∧ wr.heap[w.heap.size]? = some (XBox none 0) ∧ W0.heap.size ≤ wr.heap.size
theorem box_set {W : World} {b : Nat} {q q' : Option Addr} {e e' : Int} (h : W.heap[b]? = some (XBox q e)) : ((W.setCell ⟨b, 0, none⟩ (.pointer q')).setCell ⟨b, 1, none⟩ (.int .i64 e')).heap[b]? = some (XBox q' e') := by
  unfold XBox at h ⊢
  simp [World.setCell, Array.getElem?_modify, h]
theorem box_keep {W : World} {a b : Nat} (hab : a ≠ b) (x y : Value) : ((W.setCell ⟨b, 0, none⟩ x).setCell ⟨b, 1, none⟩ y).heap[a]? = W.heap[a]? := by
  simp [World.setCell, Array.getElem?_modify, hab.symm]
theorem SumW.next {w W0 wr w' : World} {sb p4 : Nat} {e4 z z' B hi : Int} (h : SumW w W0 wr sb z B hi) (hb : Below wr.heap.size wr w') (hsb : w.heap.size < sb) (hx : ExV w' p4 e4 B z' 200) (he : B ≤ e4 ∧ e4 ≤ hi) :
    SumW w W0 ((w'.setCell ⟨sb, 0, none⟩ (.pointer (some ⟨p4, 0, none⟩))).setCell ⟨sb, 1, none⟩ (.int .i64 e4)) sb z' B hi := by
  obtain ⟨p, e, h1, h2, h3, h4, h5, h6⟩ := h
  have k1 : w'.heap[sb]? = some (XBox (some ⟨p, 0, none⟩) e) := by rw [hb.block _ (Array.getElem?_eq_some_iff.1 h1).1]; exact h1
  have k5 : w'.heap[w.heap.size]? = some (XBox none 0) := by rw [hb.block _ (Array.getElem?_eq_some_iff.1 h5).1]; exact h5
  refine ⟨p4, e4, box_set k1, hx.stored k1 _ _, he, Below.setCell (Below.setCell (h4.trans (hb.mono h4.size)) (Nat.le_of_lt hsb) _) (Nat.le_of_lt hsb) _, by rw [box_keep (by omega)]; exact k5, ?_⟩
  have := hb.size
  simp
  omega
set_option maxRecDepth 4000 in
set_option maxHeartbeats 4000000 in
theorem xSum_fin (zs : List Nat) (b off cap : Nat) (w : World) (hm : NumsAt w b off zs) (hf : FinL zs) (hn : zs.length ≤ 17592186043904) :
    Calls Tryz.prog 38 #[.slice (some ⟨b, off, none⟩) zs.length cap] w fun r w' => ∃ p e, r = .returned (.agg #[.pointer (some ⟨p, 0, none⟩), .int .i64 e]) ∧ (-1074 ≤ e ∧ e ≤ 2000) ∧ ExV w' p e (-1074) (sumSv zs zs.length) 200 ∧ Below w.heap.size w w' := by
  have HM := hid hm
  have HF := hid hf
  have HSM : Hid (∀ k, k ≤ zs.length → (sumSv zs k).natAbs < 4294967296 ^ 200) := fun k hk => Nat.lt_of_le_of_lt (sum_le zs hf k hk) (small_bd k kN 200 (by omega) (by decide))
  obtain ⟨n, hnl⟩ : ∃ n, Hid (zs.length = n) := ⟨_, rfl⟩
  rw [hnl.out] at hn HSM ⊢
  have hblt := hm.1
  clear hm hf
  go_enter Tryz.func38, Tryz.ntmps38
  go_wp2_with fail
  refine (xZero_any _).mono ?_
  rintro r w1 ⟨q, rfl, hn1, hb1⟩
  have HS1 : Hid (w.heap.size < w1.heap.size) := by have := hb1.size; simp at this; show w.heap.size < w1.heap.size; omega
  have HW0 : Hid (SumW w w1 (w1.alloc (XBox (some ⟨q, 0, none⟩) 0)) w1.heap.size 0 (-1074) 2000) := by
    have hal : Below w1.heap.size w1 (w1.alloc (XBox (some ⟨q, 0, none⟩) 0)) := (Below.refl _ _).alloc (Nat.le_refl _) _
    have hb0 : Below w.heap.size w w1 := ((Below.refl _ _).alloc (Nat.le_refl _) _).trans (hb1.mono (by simp))
    refine ⟨q, 0, new_blk _ _ _ rfl, ⟨0, 1074, (hn1.below hal).more (by omega), by decide, by rw [Int.zero_mul]⟩, by decide, hb0.trans (hal.mono hb0.size), ?_, by simp⟩
    rw [hal.block _ HS1.out, hb1.block _ (by simp)]
    exact new_blk _ _ _ rfl
  obtain ⟨V0, hV0⟩ : ∃ V, Hid (w1.alloc (XBox (some ⟨q, 0, none⟩) 0) = V) := ⟨_, rfl⟩
  rw [hV0.out] at HW0
  unfold XBox at hV0
  clear hn1 hb1
  go_wp2_with fail
  rw [hV0.out]
  obtain ⟨sb, hsb⟩ : ∃ sb, Hid (w1.heap.size = sb) := ⟨_, rfl⟩
  rw [hsb.out] at HW0 HS1 ⊢
  go_loopw [9] (fun i wr => ∃ k : Nat, k ≤ n ∧ i = .int .i64 k ∧ Hid (SumW w w1 wr sb (sumSv zs k) (-1074) 2000)) (fun i _ => n - (intOf i).toNat)
  case atStart => exact ⟨0, Nat.zero_le _, rfl, HW0⟩
  case round =>
    obtain ⟨k, hk, rfl, HS⟩ := hrel
    obtain ⟨p, e, s1, s2, s3, s4, s5, s6⟩ := id HS.out
    by_cases hlt : k < n
    · have hck : wr.cell? ⟨b, off + k, none⟩ = some (.float .f64 (zs.getD k 0)) := (HM.out.below s4).2 k (by rw [hnl.out]; exact hlt)
      have hds : sumSv zs (k + 1) = sumSv zs k + sv (zs.getD k 0) := rfl
      obtain ⟨x1, x2⟩ := HF.out k (by rw [hnl.out]; exact hlt)
      obtain ⟨x, hx⟩ : ∃ x, Hid (zs.getD k 0 = x) := ⟨_, rfl⟩
      rw [hx.out] at hck x1 x2 hds
      have HSB : Hid (sb < wr.heap.size) := (Array.getElem?_eq_some_iff.1 s1).1
      have HBR : Hid (b < wr.heap.size) := Nat.lt_of_lt_of_le hblt s4.size
      have HK : Hid (∀ W, Below wr.heap.size wr W → W.cell? ⟨sb, 0, none⟩ = some (.pointer (some ⟨p, 0, none⟩)) ∧ W.cell? ⟨sb, 1, none⟩ = some (.int .i64 e) ∧ (∀ o, W.frozen? ⟨sb, o, none⟩ = false)) := fun W hW => xcells_of ((hW.block _ HSB.out).trans s1)
      obtain ⟨y0, y1, _⟩ := HK.out wr (Below.refl _ _)
      have HOF : Hid (∀ W, Hid (Below wr.heap.size wr W) → Calls Tryz.prog 66 #[.float .f64 x] W fun r w' => ∃ p3 e3, r = .returned (.agg #[.pointer (some ⟨p3, 0, none⟩), .int .i64 e3]) ∧ Hid ((-1074 ≤ e3 ∧ e3 ≤ 2000) ∧ ExV w' p3 e3 (-1074) (sv x) 2) ∧ Hid (Below wr.heap.size wr w') ∧ (w'.cell? ⟨sb, 0, none⟩ = some (.pointer (some ⟨p, 0, none⟩)) ∧ w'.cell? ⟨sb, 1, none⟩ = some (.int .i64 e) ∧ (∀ o, w'.frozen? ⟨sb, o, none⟩ = false))) := fun W hW => by
        refine (xOf_fin x W x1 x2).mono ?_
        rintro r w' ⟨p3, e3, rfl, h1, h2, h3⟩
        have hb := hW.out.trans (h3.mono hW.out.size)
        exact ⟨p3, e3, rfl, ⟨h1, h2⟩, hb, HK.out _ hb⟩
      have HADD : Hid (∀ W p3 e3, Hid (Below wr.heap.size wr W) → Hid ((-1074 ≤ e3 ∧ e3 ≤ 2000) ∧ ExV W p3 e3 (-1074) (sv x) 2) → Calls Tryz.prog 41 #[.agg #[.pointer (some ⟨p, 0, none⟩), .int .i64 e], .agg #[.pointer (some ⟨p3, 0, none⟩), .int .i64 e3]] W fun r w' => ∃ p4 e4, r = .returned (.agg #[.pointer (some ⟨p4, 0, none⟩), .int .i64 e4]) ∧ Hid (SumW w w1 ((w'.setCell ⟨sb, 0, none⟩ (.pointer (some ⟨p4, 0, none⟩))).setCell ⟨sb, 1, none⟩ (.int .i64 e4)) sb (sumSv zs (k + 1)) (-1074) 2000) ∧ (w'.cell? ⟨sb, 0, none⟩ = some (.pointer (some ⟨p, 0, none⟩)) ∧ w'.cell? ⟨sb, 1, none⟩ = some (.int .i64 e) ∧ (∀ o, w'.frozen? ⟨sb, o, none⟩ = false))) := fun W p3 e3 hW h3 => by
        have hs2 := s2.below hW.out
        obtain ⟨⟨g1, g2⟩, g3⟩ := h3.out
        refine (xAdd_val p p3 200 2 e e3 (-1074) _ _ W hs2 g3 (by decide) (by decide) (by omega) (by omega)).mono ?_
        rintro r w' ⟨p4, e4, rfl, ⟨f1, f2⟩, f3, f4⟩
        rw [← hds] at f3
        have hbw : Below wr.heap.size wr w' := hW.out.trans (f4.mono hW.out.size)
        exact ⟨p4, e4, rfl, HS.out.next hbw HS1.out (f3.tight 200 (HSM.out (k + 1) (by omega))) ⟨f1, by omega⟩, HK.out _ hbw⟩
      have HQ0 : Hid (Below wr.heap.size wr wr.drew) := (Below.refl _ _).drew
      have hkI : (k : Int) < (n : Int) := by omega
      have hk0 : (0 : Int) ≤ (k : Int) := by omega
      clear s1 s2 s3 s4 s5 s6 x1 x2 hds
      go_wp2_with fail
      go_region_with (first
          | (go_at_call 66; refine (HOF.out _ HQ0).mono ?_; rintro r w3 ⟨p3, e3, rfl, HX3, HF3, ⟨v0, v1, v2⟩⟩)
          | (go_at_call 41; refine (HADD.out _ _ _ HF3 HX3).mono ?_; rintro r w4 ⟨p4, e4, rfl, HX4, ⟨u0, u1, u2⟩⟩))
      all_goals
        go_wp2
        refine ⟨⟨k + 1, by omega, by go_num, HX4⟩, ?_⟩
        simp [intOf]; omega
    · have hkn : k = n := by omega
      subst hkn
      obtain ⟨y0, y1, y2⟩ := xcells_of s1
      obtain ⟨t0, t1, t2⟩ := xcells_of s5
      have HX := hid (show ExV _ p e (-1074) (sumSv zs k) 200 ∧ (-1074 ≤ e ∧ e ≤ 2000) from ⟨s2, s3⟩)
      have HB := hid s4
      have HR := hid s5
      clear s1 s2 s3 s4 s5 s6
      go_wp2
      exact bodyPost_ret (v := .agg #[.pointer (some ⟨p, 0, none⟩), .int .i64 e]) (by simp [results, Tryz.results38, go_sem, t0, t1]) rfl ⟨p, e, rfl, HX.out.2, HX.out.1.stored HR.out _ _, Below.setCell (Below.setCell HB.out (Nat.le_refl _) _) (Nat.le_refl _) _⟩
end Go.Proofs.YtehnkgonhgjeiaaGreatDoor

namespace Go.Proofs.YtehnkgonhgjeiaaGreatDoor
open Go.RowKit Go.IntWalk

theorem dot_le (xs ys : List Nat) (hf : FinL xs) (hg : FinL ys) (hl : ys.length = xs.length) : ∀ k, k ≤ xs.length → (dotSv xs ys k).natAbs ≤ k * 2 ^ (kN + kN)
  | 0, _ => by show (0 : Int).natAbs ≤ _; simp
  | k + 1, hk => by
    have ih := dot_le xs ys hf hg hl k (by omega)
    obtain ⟨_, _, _, j3, _⟩ := sv_parts (xs.getD k 0) (hf k (by omega)).2
    obtain ⟨_, _, _, i3, _⟩ := sv_parts (ys.getD k 0) (hg k (by omega)).2
    have hp : (sv (xs.getD k 0) * sv (ys.getD k 0)).natAbs ≤ 2 ^ (kN + kN) := by
      rw [Int.natAbs_mul, Nat.pow_add]
      exact Nat.mul_le_mul (Nat.le_of_lt j3) (Nat.le_of_lt i3)
    show (dotSv xs ys k + sv (xs.getD k 0) * sv (ys.getD k 0)).natAbs ≤ (k + 1) * 2 ^ (kN + kN)
    rw [Nat.add_mul, Nat.one_mul]
    omega
/-- The sum's box, as it lies while a product is made. -/
def SBox (W : World) (sb p : Nat) (e : Int) : Prop := W.cell? ⟨sb, 0, none⟩ = some (.pointer (some ⟨p, 0, none⟩)) ∧ W.cell? ⟨sb, 1, none⟩ = some (.int .i64 e) ∧ (∀ o, W.frozen? ⟨sb, o, none⟩ = false)
def OfV (W : World) (p : Nat) (e z : Int) : Prop := (-1074 ≤ e ∧ e ≤ 2000) ∧ ExV W p e (-1074) z 2
end Go.Proofs.YtehnkgonhgjeiaaGreatDoor

namespace Go.Proofs.YtehnkgonhgjeiaaGreatDoor
open Go.RowKit Go.IntWalk

theorem rd_pow (m : Nat) : (4294967296 : Nat) ^ m = 2 ^ (32 * m) := by rw [show (4294967296 : Nat) = 2 ^ 32 by decide, ← Nat.pow_mul]
theorem rd_len {w : World} {q bd : Nat} {v : Int} (h : NumAt w q v bd) : bitLen v.natAbs ≤ 32 * bd := by
  obtain ⟨neg, L, h1, h2, a, cap, ho, hcap, hm, hd, hc, hn⟩ := h
  refine bitLen_le _ _ ?_
  rw [← h1, intL_abs, ← rd_pow]
  exact Nat.lt_of_lt_of_le (natL_lt L hd) (Nat.pow_le_pow_right (by decide) h2)
/-- What Near answers. -/
def nearE (v d : Int) : Int := if d ≤ 0 then v * 2 ^ (-d).toNat else nearZ v d.toNat
theorem xNear_val (p bd : Nat) (v d : Int) (w : World) (hx : NumAt w p v bd) (hbd : bd ≤ 300000) (h1 : -1000000 ≤ d) (h2 : d ≤ 1000000) :
    Calls Tryz.prog 135 #[.pointer (some ⟨p, 0, none⟩), .int .i64 d, .int .i64 0] w fun r w' => ∃ q, r = .returned (.pointer (some ⟨q, 0, none⟩)) ∧ NumAt w' q (nearE v d) (bd + 40000) ∧ Below w.heap.size w w' := by
  unfold nearE
  by_cases h : d ≤ 0
  · rw [if_pos h]
    obtain ⟨k, hk⟩ := Int.eq_ofNat_of_zero_le (show 0 ≤ -d by omega)
    have hd : d = -(k : Int) := by omega
    subst hd
    rw [show (-(-(k : Int))).toNat = k by omega]
    refine (xNear_up p bd k v w hx (by omega) (by omega)).mono ?_
    rintro r w' ⟨q, rfl, h3, h4⟩
    exact ⟨q, rfl, h3.more (by omega), h4⟩
  · rw [if_neg h]
    obtain ⟨n, hn⟩ := Int.eq_ofNat_of_zero_le (show 0 ≤ d by omega)
    subst hn
    rw [Int.toNat_natCast]
    exact xNear_down p bd n v w hx hbd (by omega) (by omega)
/-- The exponent of the last digit kept. -/
def rdE (v e : Int) : Int := max (-1074) (e + (bitLen v.natAbs : Int) - 53)
set_option maxRecDepth 4000 in
set_option maxHeartbeats 4000000 in
theorem xround_val (p bd : Nat) (e B z : Int) (w : World) (h : ExV w p e B z bd) (hbd : bd ≤ 200) (he1 : -10000 ≤ e) (he2 : e ≤ 10000) (hz : z ≠ 0) (hT : Tab32 w) (hs : 2 < w.heap.size) :
    Calls Tryz.prog 91 #[.agg #[.pointer (some ⟨p, 0, none⟩), .int .i64 e], .int .i64 53, .int .i64 (-1074), .int .i64 0] w fun r w' => ∃ q v k, r = .returned (.tuple #[.pointer (some ⟨q, 0, none⟩), .int .i64 (rdE v (B + (k : Nat)))]) ∧ v % 2 = 1 ∧ z = v * 2 ^ k ∧ bitLen v.natAbs ≤ 32 * 201 ∧ (-10000 ≤ B + (k : Int) ∧ B + (k : Int) ≤ 16400) ∧ NumAt w' q (nearE v (rdE v (B + (k : Nat)) - (B + (k : Nat)))) (bd + 40001) ∧ Below w.heap.size w w' := by
  have hal : Below w.heap.size w (w.alloc (XBox (some ⟨p, 0, none⟩) e)) := (Below.refl _ _).alloc (Nat.le_refl _) _
  have HOD := hid (xOdd_val p bd e B z _ (h.below hal) (by omega) (by omega) (by omega) (hT.below hs hal) (Nat.lt_of_lt_of_le hs hal.size))
  have HG : Hid ((w.alloc (XBox (some ⟨p, 0, none⟩) e)).heap[w.heap.size]? = some (XBox (some ⟨p, 0, none⟩) e)) := new_blk _ _ _ rfl
  have HAL := hid hal
  have HS0 : Hid ((w.alloc (XBox (some ⟨p, 0, none⟩) e)).heap.size = w.heap.size + 1) := by show (w.alloc _).heap.size = _; simp
  have HZ := hid hz
  have HBD := hid hbd
  obtain ⟨W0, hW0⟩ : ∃ V, Hid (w.alloc (XBox (some ⟨p, 0, none⟩) e) = V) := ⟨_, rfl⟩
  rw [hW0.out] at HOD HG HAL HS0
  obtain ⟨x0, x1, _⟩ := xcells_of (show W0.heap[w.heap.size]? = some (.cells #[.pointer (some ⟨p, 0, none⟩), .int .i64 e] 46) from HG.out)
  unfold XBox at hW0
  have hW0' := hW0.out
  clear h hT hs hz hbd hal
  go_enter Tryz.func91, Tryz.ntmps91
  go_wp2_with fail
  refine HOD.out.mono ?_
  rintro r w1 ⟨q, e', rfl, ho, hee, hb1⟩
  obtain ⟨v, k, hv1, hn1, hk1, hz1⟩ : ∃ v : Int, ∃ k : Nat, v % 2 = 1 ∧ NumAt w1 q v (bd + 1) ∧ e' = B + k ∧ z = v * 2 ^ k := by
    rcases ho with ⟨h, _⟩ | h
    · exact absurd h HZ.out
    · exact h
  have hv0 : v ≠ 0 := by omega
  have hE1 : -10000 ≤ e' ∧ e' ≤ 16400 := by
    have := HBD.out
    rcases hee with h | h
    · omega
    · omega
  have k1 : w1.heap[w.heap.size]? = some (XBox (some ⟨p, 0, none⟩) e) := by rw [hb1.block _ (by have := HS0.out; omega)]; exact HG.out
  obtain ⟨c0, c1, c2⟩ := xcells_of k1
  obtain ⟨V1, hV1⟩ : ∃ V, Hid ((w1.setCell ⟨w.heap.size, 0, none⟩ (.pointer (some ⟨q, 0, none⟩))).setCell ⟨w.heap.size, 1, none⟩ (.int .i64 e') = V) := ⟨_, rfl⟩
  have HN1 : Hid (NumAt V1 q v (bd + 1)) := by rw [← hV1.out]; exact hn1.stored (hn1.ne_x k1) k1 _ _
  have HX1 : Hid (V1.heap[w.heap.size]? = some (XBox (some ⟨q, 0, none⟩) e')) := by
    rw [← hV1.out]
    show (World.setCell _ _ _).heap[_]? = _
    unfold XBox at k1 ⊢
    simp [World.setCell, Array.getElem?_modify, k1]
  have HB1 : Hid (Below w.heap.size w V1) := by rw [← hV1.out]; exact Below.setCell (Below.setCell (HAL.out.trans (hb1.mono HAL.out.size)) (Nat.le_refl _) _) (Nat.le_refl _) _
  have HBL : Hid (bitLen v.natAbs ≤ 32 * 201) := by have := rd_len hn1; have := HBD.out; show _ ≤ _; omega
  have HV := hid (show v % 2 = 1 ∧ z = v * 2 ^ k ∧ e' = B + k from ⟨hv1, hz1, hk1⟩)
  obtain ⟨y0, y1, _⟩ := xcells_of (show V1.heap[w.heap.size]? = some (.cells #[.pointer (some ⟨q, 0, none⟩), .int .i64 e'] 46) from HX1.out)
  obtain ⟨BL, hBL⟩ : ∃ b, Hid (bitLen v.natAbs = b) := ⟨_, rfl⟩
  have hbl : (BL : Int) ≤ 6432 := by have := HBL.out; have := hBL.out; omega
  have HQL : Hid (∀ n, Calls Tryz.prog 68 #[.pointer (some ⟨q, 0, none⟩)] (V1.drewN n) fun r w' => r = .returned (.int .i64 BL) ∧ ∃ m, w' = (V1.drewN n).drewN m) := fun n => by
    have := NBitLen q v (bd + 1) (V1.drewN n) (HN1.out.below (bl_drewN _ (Below.refl _ _))) (by have := HBD.out; omega)
    rw [hBL.out] at this
    exact this
  obtain ⟨E, hE⟩ : ∃ E : Int, Hid (max (-1074) (e' + (BL : Int) - 53) = E) := ⟨_, rfl⟩
  have hE2 : -1074 ≤ E ∧ E ≤ 22900 := by have := hE.out; omega
  have hw1 : IntKind.i64.wrap (e' + (BL : Int)) = e' + (BL : Int) := by rw [IntWalk.i64_in _ (by omega)]
  have hw2 : IntKind.i64.wrap (e' + (BL : Int) - 53) = e' + (BL : Int) - 53 := by rw [IntWalk.i64_in _ (by omega)]
  have hw3 : IntKind.i64.wrap (E - e') = E - e' := by rw [IntWalk.i64_in _ (by omega)]
  have hmx := hE.out
  have HE3 := hid hE2
  have HE4 := hid hE1
  have hV1' := hV1.out
  clear ho hee hb1 k1 hn1 hv1 hz1 hk1 hv0 x0 x1
  go_wp2_with fail
  go_quiet (first | (go_at_call 68; exact Calls.quiet_of (HQL.out _)))
  have HBN : Hid (Below V1.heap.size V1 (V1.drewN nq)) := bl_drewN _ (Below.refl _ _)
  have HNN := hid (HN1.out.below HBN.out)
  have HBW : Hid (Below w.heap.size w (V1.drewN nq)) := HB1.out.trans (HBN.out.mono HB1.out.size)
  go_wp2_with fail
  refine (xNear_val q (bd + 1) v (E - e') _ HNN.out (by have := HBD.out; omega) (by have := HE3.out; have := HE4.out; omega) (by have := HE3.out; have := HE4.out; omega)).mono ?_
  rintro r w3 ⟨q3, rfl, hn3, hb3⟩
  have HN3 := hid hn3
  have HB3 := hid (HBW.out.trans (hb3.mono HBW.out.size))
  have HEE : Hid (rdE v (B + (k : Nat)) = E) := by show rdE v (B + (k : Nat)) = E; unfold rdE; rw [hBL.out, ← HV.out.2.2, hE.out]
  clear hn3 hb3
  go_wp2
  go_ret2
  refine ⟨q3, v, k, by rw [HEE.out]; rfl, HV.out.1, HV.out.2.1, HBL.out, ?_, ?_, HB3.out⟩
  · have := HE4.out
    have := HV.out.2.2
    omega
  · have := HN3.out
    rw [HEE.out, ← HV.out.2.2]
    exact this.more (by omega)
end Go.Proofs.YtehnkgonhgjeiaaGreatDoor

namespace Go.Proofs.YtehnkgonhgjeiaaGreatDoor
open Go.RowKit Go.IntWalk

theorem ret_fl {a b : Nat} (h : a = b) : Ending.returned (.float .f64 a) = .returned (.float .f64 b) := by rw [h]
set_option maxHeartbeats 400000 in
theorem abs_fl (x : Nat) (w : World) (hx : x < 18446744073709551616) : Calls Tryz.prog 60 #[.float .f64 x] w fun r w' => r = .returned (.float .f64 (x % 9223372036854775808)) ∧ w' = w := by
  have h1 := f64bits
  have h2 := f64fromI3
  have H := hid (andNot_sign x hx)
  clear hx
  go_enter Tryz.func60, Tryz.ntmps60
  go_wp2
  go_ret
  exact ⟨ret_fl (by rw [H.out]; rfl), rfl⟩
theorem sv_mag (r : Nat) (h : r < 9223372036854775808) : sv r = (nv r : Int) := by
  unfold sv
  rw [if_neg (by omega), Nat.mod_eq_of_lt h]
theorem order_mag (r c : Nat) (hr : r ≤ 9218868437227405312) (hc : c ≤ 9218868437227405312) : FloatKind.f64.format.order r c = some (if r < c then .lt else if c < r then .gt else .eq) := by
  rw [order_eq r c (by omega) (by omega) (by omega) (by omega), sv_mag r (by omega), sv_mag c (by omega)]
  congr 1
  by_cases h1 : r < c
  · rw [if_pos h1]
    exact cmp_lt (by have := nv_lt h1; omega)
  · rw [if_neg h1]
    by_cases h2 : c < r
    · rw [if_pos h2]
      exact cmp_gt (by have := nv_lt h2; omega)
    · rw [if_neg h2]
      have : r = c := by omega
      rw [this]
      exact cmp_eq rfl
theorem order_max (r : Nat) : r < 9223372036854775808 → (FloatKind.f64.format.order r 9218868437227405311 == some .gt) = decide (r = 9218868437227405312) := by
  intro hr
  by_cases h : 9218868437227405312 < r
  · rw [order_nan_l r _ (by rw [Nat.mod_eq_of_lt hr]; exact h), decide_eq_false (by omega)]; rfl
  · rw [order_mag r _ (by omega) (by decide)]
    by_cases c : r = 9218868437227405312
    · rw [if_neg (by omega), if_pos (by omega), decide_eq_true c]; rfl
    · rw [decide_eq_false c]
      by_cases d : r < 9218868437227405311
      · rw [if_pos d]; rfl
      · rw [if_neg d, if_neg (by omega)]; rfl
set_option maxHeartbeats 400000 in
theorem isinf_fl (x : Nat) (w : World) (hx : x < 18446744073709551616) : Calls Tryz.prog 80 #[.float .f64 x, .int .i64 0] w fun r w' => r = .returned (.bool (decide (x % 9223372036854775808 = 9218868437227405312))) ∧ w' = w := by
  have H := hid (order_max (x % 9223372036854775808) (by omega))
  have HA := hid (fun (W : World) => abs_fl x W hx)
  obtain ⟨r, hr⟩ : ∃ r, Hid (x % 9223372036854775808 = r) := ⟨_, rfl⟩
  rw [hr.out] at H HA ⊢
  clear hx
  go_enter Tryz.func80, Tryz.ntmps80
  go_wp2_with fail
  refine (HA.out _).mono ?_
  rintro z w1 ⟨rfl, rfl⟩
  go_wp2
  go_ret
  exact ⟨ret_bool H.out, rfl⟩
theorem bt2 : bits .or .u64 0 9209861237972664320 = 9209861237972664320 := by decide +kernel
set_option maxHeartbeats 1000000 in
theorem ldexp_1022 (w : World) : Calls Tryz.prog 109 #[.float .f64 4607182418800017408, .int .i64 1022] w fun r w' => r = .returned (.float .f64 9209861237972664320) ∧ w' = w := by
  obtain ⟨g1, g2, g3, g4⟩ := o1
  obtain ⟨b1, b2, b3, _⟩ := bt1
  have b4 := bt2
  have h1 := f64bits
  have h2 := f64fromI3
  have hm := f_mul (x := 4607182418800017408) (y := 9209861237972664320) (z := 9209861237972664320) (by decide +kernel)
  have c0 : wrap64 0 = 0 := by decide +kernel
  have c1 : wrap64 1022 = 1022 := by decide +kernel
  go_enter Tryz.func109, Tryz.ntmps109
  go_wp2
  go_ret
  exact ⟨rfl, rfl⟩
set_option maxHeartbeats 1000000 in
theorem Ldexp_1022 (w : World) : Calls Tryz.prog 61 #[.float .f64 4607182418800017408, .int .i64 1022] w fun r w' => r = .returned (.float .f64 9209861237972664320) ∧ w' = w := by
  go_enter Tryz.func61, Tryz.ntmps61
  go_wp2_with fail
  refine (ldexp_1022 _).mono ?_
  rintro r w1 ⟨rfl, rfl⟩
  go_wp2
  go_ret
  exact ⟨rfl, rfl⟩
end Go.Proofs.YtehnkgonhgjeiaaGreatDoor

namespace Go.Proofs.YtehnkgonhgjeiaaGreatDoor
open Go.RowKit Go.IntWalk

end Go.Proofs.YtehnkgonhgjeiaaGreatDoor

namespace Go.Proofs.YtehnkgonhgjeiaaGreatDoor
open Go.RowKit Go.IntWalk

theorem nv_1022 : nv 9209861237972664320 = 4503599627370496 * 2 ^ kG := by decide +kernel
theorem sv_1022 {x : Nat} (h : x % 9223372036854775808 ≤ 9209861237972664320) : (sv x).natAbs ≤ 4503599627370496 * 2 ^ kG := by
  rw [← nv_1022]
  have := nv_le h
  unfold sv
  split <;> omega
theorem canon_fin {x : Nat} (h : x % 9223372036854775808 < 9218868437227405312) : canonOf x = x := if_neg (by omega)
theorem nv_nought {r : Nat} (h : nv r = 0) : r = 0 := by
  by_cases c : r = 0
  · exact c
  · have := nv_lt (show 0 < r by omega); omega
theorem sv_nought {x : Nat} (h : sv x = 0) : x % 9223372036854775808 = 0 := by
  apply nv_nought
  unfold sv at h
  split at h <;> omega
theorem order_same (x y : Nat) (hx : x < 18446744073709551616) (hy : y < 18446744073709551616) (nx : x % 9223372036854775808 < 9218868437227405312) (ny : y % 9223372036854775808 < 9218868437227405312) (h : sv x = sv y) : FloatKind.f64.format.order x y = some .eq := by
  rw [order_eq x y hx hy (by omega) (by omega), cmp_eq h]
theorem order_diff (x y : Nat) (hx : x < 18446744073709551616) (hy : y < 18446744073709551616) (nx : x % 9223372036854775808 < 9218868437227405312) (ny : y % 9223372036854775808 < 9218868437227405312) (h : sv x ≠ sv y) : (FloatKind.f64.format.order x y != some .eq) = true := by
  rw [order_eq x y hx hy (by omega) (by omega)]
  rcases (by omega : sv x < sv y ∨ sv y < sv x) with c | c
  · rw [cmp_lt c]; rfl
  · rw [cmp_gt c]; rfl
theorem sv_abs (x y : Nat) (h : ¬ x % 9223372036854775808 < y % 9223372036854775808) : (sv y).natAbs ≤ (sv x).natAbs := by
  have := nv_le (Nat.le_of_not_lt h)
  unfold sv
  split <;> split <;> omega
theorem order_less (r c : Nat) (hr : r < 9218868437227405312) (hc : c < 9218868437227405312) : (FloatKind.f64.format.order r c == some .lt) = decide (r < c) := by
  rw [order_mag r c (by omega) (by omega)]
  by_cases h : r < c
  · rw [if_pos h, decide_eq_true h]; rfl
  · rw [if_neg h, decide_eq_false h]
    split <;> rfl
end Go.Proofs.YtehnkgonhgjeiaaGreatDoor

namespace Go.Proofs.YtehnkgonhgjeiaaGreatDoor
open Go.RowKit Go.IntWalk

theorem bt3 : bits .or .u64 0 9088264048033660928 = 9088264048033660928 := by decide +kernel
set_option maxHeartbeats 1000000 in
theorem ldexp_995 (w : World) : Calls Tryz.prog 109 #[.float .f64 4607182418800017408, .int .i64 995] w fun r w' => r = .returned (.float .f64 9088264048033660928) ∧ w' = w := by
  obtain ⟨g1, g2, g3, g4⟩ := o1
  obtain ⟨b1, b2, b3, _⟩ := bt1
  have b4 := bt3
  have h1 := f64bits
  have h2 := f64fromI3
  have hm := f_mul (x := 4607182418800017408) (y := 9088264048033660928) (z := 9088264048033660928) (by decide +kernel)
  have c0 : wrap64 0 = 0 := by decide +kernel
  have c1 : wrap64 995 = 995 := by decide +kernel
  go_enter Tryz.func109, Tryz.ntmps109
  go_wp2
  go_ret
  exact ⟨rfl, rfl⟩
set_option maxHeartbeats 1000000 in
theorem Ldexp_995 (w : World) : Calls Tryz.prog 61 #[.float .f64 4607182418800017408, .int .i64 995] w fun r w' => r = .returned (.float .f64 9088264048033660928) ∧ w' = w := by
  go_enter Tryz.func61, Tryz.ntmps61
  go_wp2_with fail
  refine (ldexp_995 _).mono ?_
  rintro r w1 ⟨rfl, rfl⟩
  go_wp2
  go_ret
  exact ⟨rfl, rfl⟩
theorem odd_under {v z : Int} {k g : Nat} (hv : v % 2 = 1) (h : z = v * 2 ^ k) (hd : ((2 ^ g : Nat) : Int) ∣ z) : g ≤ k := by
  by_cases c : g ≤ k
  · exact c
  · exfalso
    obtain ⟨m, hm⟩ := hd
    obtain ⟨j, rfl⟩ : ∃ j, g = k + (j + 1) := ⟨g - k - 1, by omega⟩
    have hp : ((2 : Int) ^ k) ≠ 0 := Int.pow_ne_zero (by decide)
    have e : (((2 ^ (k + (j + 1)) : Nat)) : Int) = 2 ^ k * (2 ^ j * 2) := by
      rw [Int.natCast_pow, Int.pow_add, Int.pow_succ]; rfl
    rw [h, e, Int.mul_comm v, Int.mul_assoc] at hm
    have := Int.eq_of_mul_eq_mul_left hp hm
    rw [Int.mul_comm (2 ^ j) 2, Int.mul_assoc] at this
    omega
theorem odd_small {v z : Int} {k g : Nat} (hv : v % 2 = 1) (h : z = v * 2 ^ k) (hd : ((2 ^ g : Nat) : Int) ∣ z) (hb : z.natAbs ≤ 67108864 * 2 ^ g) : bitLen v.natAbs ≤ 26 := by
  have hg := odd_under hv h hd
  have h2 : 2 ^ g ≤ 2 ^ k := Nat.pow_le_pow_right (by decide) hg
  have hn : z.natAbs = v.natAbs * 2 ^ k := by
    rw [h, Int.natAbs_mul, Int.natAbs_pow]; rfl
  have hp := Nat.two_pow_pos k
  have h3 : v.natAbs * 2 ^ k ≤ 67108864 * 2 ^ k := by omega
  have h4 := Nat.le_of_mul_le_mul_right h3 hp
  exact bitLen_le _ 26 (by omega)
theorem order_diffE (x y : Nat) (hx : x < 18446744073709551616) (hy : y < 18446744073709551616) (nx : x % 9223372036854775808 < 9218868437227405312) (ny : y % 9223372036854775808 < 9218868437227405312) (h : sv x ≠ sv y) : (FloatKind.f64.format.order x y == some .eq) = false := by
  have := order_diff x y hx hy nx ny h
  rw [bne] at this
  cases e : (FloatKind.f64.format.order x y == some .eq)
  · rfl
  · rw [e] at this; exact absurd this (by decide)
end Go.Proofs.YtehnkgonhgjeiaaGreatDoor

namespace Go.Proofs.YtehnkgonhgjeiaaGreatDoor
open Go Go.RowKit Go.IntWalk

theorem odd_part (a : Int) (h : a ≠ 0) : ∃ v : Int, ∃ j : Nat, v % 2 = 1 ∧ a = v * 2 ^ j := by
  obtain ⟨n, hn⟩ : ∃ n, a.natAbs = n := ⟨_, rfl⟩
  induction n using Nat.strongRecOn generalizing a with
  | ind n ih =>
    by_cases c : a % 2 = 1
    · exact ⟨a, 0, c, by rw [Int.pow_zero, Int.mul_one]⟩
    · obtain ⟨v, j, h1, h2⟩ := ih (a / 2).natAbs (by omega) (a / 2) (by omega) rfl
      refine ⟨v, j + 1, h1, ?_⟩
      rw [Int.pow_succ, ← Int.mul_assoc, ← h2]
      omega
theorem odd_mul {u v : Int} (hu : u % 2 = 1) (hv : v % 2 = 1) : u * v % 2 = 1 := by rw [Int.mul_emod, hu, hv]; rfl
/-- Where the product is a whole number of steps, so are those of the halves. -/
theorem halves_whole (a b H I : Int) (k : Nat) (ha : a ≠ 0) (hb : b ≠ 0) (hA : Halves a H) (hB : Halves b I) (h : ((2 ^ k : Nat) : Int) ∣ a * b) :
    ((2 ^ k : Nat) : Int) ∣ H * I ∧ ((2 ^ k : Nat) : Int) ∣ (a - H) * I ∧ ((2 ^ k : Nat) : Int) ∣ H * (b - I) ∧ ((2 ^ k : Nat) : Int) ∣ (a - H) * (b - I) := by
  obtain ⟨u, i, hu, ea⟩ := odd_part a ha
  obtain ⟨v, j, hv, eb⟩ := odd_part b hb
  have e : a * b = (u * v) * 2 ^ (i + j) := by rw [ea, eb, Int.pow_add, Int.mul_assoc u, Int.mul_left_comm (2 ^ i), ← Int.mul_assoc]
  have hk := odd_under (odd_mul hu hv) e h
  have a1 : ((2 ^ i : Nat) : Int) ∣ a := ⟨u, by rw [ea, Int.mul_comm, Int.natCast_pow]; rfl⟩
  have b1 : ((2 ^ j : Nat) : Int) ∣ b := ⟨v, by rw [eb, Int.mul_comm, Int.natCast_pow]; rfl⟩
  have a2 := hA.dv i a1
  have b2 := hB.dv j b1
  have a3 := Int.dvd_sub a1 a2
  have b3 := Int.dvd_sub b1 b2
  exact ⟨Int.dvd_trans (pow_dvd hk) (dvd_pp a2 b2), Int.dvd_trans (pow_dvd hk) (dvd_pp a3 b2), Int.dvd_trans (pow_dvd hk) (dvd_pp a2 b3), Int.dvd_trans (pow_dvd hk) (dvd_pp a3 b3)⟩
theorem sign_sc {z P : Int} {T : Nat} (hT : 0 < T) (e : z = P * (T : Int)) : (z ≠ 0 ↔ P ≠ 0) ∧ (z < 0 ↔ P < 0) := by
  have hT' : (0 : Int) < T := by omega
  subst e
  refine ⟨⟨?_, ?_⟩, ⟨?_, ?_⟩⟩
  · intro h c; exact h (by rw [c, Int.zero_mul])
  · intro h c
    rcases Int.mul_eq_zero.1 c with c | c <;> omega
  · intro h
    by_cases c : P < 0
    · exact c
    · have := Int.mul_nonneg (by omega : 0 ≤ P) (Int.le_of_lt hT'); omega
  · intro h; exact Int.mul_neg_of_neg_of_pos h hT'
/-- What is rounded at the finer grid. -/
theorem fin_sc (s : Bool) (z P : Int) (e : z = P * ((2 ^ kH : Nat) : Int)) (hs : z ≠ 0 → s = decide (z < 0)) (h : P.natAbs ≤ 9007199254740992 * 2 ^ kG) : signN s (rndM z.natAbs (-2148)) = signN s (rnR P.natAbs) ∧ Fin64 (signN s (rnR P.natAbs)) (rz P) := by
  obtain ⟨T, hT⟩ : ∃ T, (2 : Nat) ^ kH = T := ⟨_, rfl⟩
  have hT0 : 0 < T := by rw [← hT]; exact Nat.two_pow_pos _
  have hr := rndM_sc P.natAbs kH (-1074)
  rw [hT] at e hr
  obtain ⟨g1, g2⟩ := sign_sc hT0 e
  have hk := kG_is
  rw [← (pow_more kG).2] at h
  have hn : z.natAbs = P.natAbs * T := by rw [e, Int.natAbs_mul]; rfl
  obtain ⟨f1, f2⟩ := fin_rz s P (kG + 53) (by omega) h (fun hne => by
    rw [hs (g1.2 hne)]
    exact decide_eq_decide.2 g2)
  refine ⟨?_, f1⟩
  rw [hn, show (-2148 : Int) = -1074 - ((kH : Nat) : Int) by decide, hr]
  rfl
theorem fin_mul (x y : Nat) (a b P : Int) (hx : Fin64 x a) (hy : Fin64 y b) (e : a * b = P * ((2 ^ kH : Nat) : Int)) (h : P.natAbs ≤ 9007199254740992 * 2 ^ kG) : ∃ r, FloatKind.f64.format.mul x y = some r ∧ Fin64 r (rz P) := by
  obtain ⟨x1, x2, rfl⟩ := hx
  obtain ⟨y1, y2, rfl⟩ := hy
  obtain ⟨s, e1, hs⟩ := mul_rnd x y x1 y1 x2 y2
  obtain ⟨f1, f2⟩ := fin_sc s _ P e hs h
  exact ⟨_, e1.trans (congrArg some f1), f2⟩
/-- The sum of two data with one base: what is rounded, and its value. -/
theorem sum_valK (K : Int) (s t : Bool) (m n p q : Nat) (A B : Int) (hA : A = if s then -((m * 2 ^ p : Nat) : Int) else ((m * 2 ^ p : Nat) : Int)) (hB : B = if t then -((n * 2 ^ q : Nat) : Int) else ((n * 2 ^ q : Nat) : Int)) :
    ∃ mag b : Nat, (Ieee.Datum.number s m ((p : Int) - K)).sum (.number t n ((q : Int) - K)) = some (.number (if A + B = 0 then s && t else decide (A + B < 0)) mag ((b : Int) - K)) ∧ mag * 2 ^ b = (A + B).natAbs := by
  have hb : min ((p : Int) - K) ((q : Int) - K) = ((min p q : Nat) : Int) - K := by omega
  have t1 : ((p : Int) - K - (((min p q : Nat) : Int) - K)).toNat = p - min p q := by omega
  have t2 : ((q : Int) - K - (((min p q : Nat) : Int) - K)).toNat = q - min p q := by omega
  have e1 := signed_scale s m (min p q) p (Nat.min_le_left _ _)
  have e2 := signed_scale t n (min p q) q (Nat.min_le_right _ _)
  have hsum : (Ieee.signed s m (p - min p q) + Ieee.signed t n (q - min p q)) * ((2 ^ min p q : Nat) : Int) = A + B := by
    rw [Int.add_mul, e1, e2, hA, hB]
  have hp : 0 < 2 ^ min p q := Nat.two_pow_pos (min p q)
  obtain ⟨T, hT⟩ : ∃ T, T = Ieee.signed s m (p - min p q) + Ieee.signed t n (q - min p q) := ⟨_, rfl⟩
  rw [← hT] at hsum
  obtain ⟨z1, z2⟩ := sign_sc hp hsum.symm
  refine ⟨T.natAbs, min p q, ?_, ?_⟩
  · show some (Ieee.Datum.number _ _ _) = _
    simp only [hb, t1, t2, ← hT]
    by_cases c : A + B = 0
    · have : T = 0 := by
        apply Classical.byContradiction
        intro h
        exact z1.2 h c
      rw [if_pos this, if_pos c]
    · rw [if_neg (z1.1 c), if_neg c, decide_eq_decide.2 z2]
  · rw [← hsum, Int.natAbs_mul]
    rfl
theorem xor_form (x y m n p q : Nat) (fa : sv x = if (decide (9223372036854775808 ≤ x)) then -((m * 2 ^ p : Nat) : Int) else ((m * 2 ^ p : Nat) : Int)) (fb : sv y = if (decide (9223372036854775808 ≤ y)) then -((n * 2 ^ q : Nat) : Int) else ((n * 2 ^ q : Nat) : Int)) :
    sv x * sv y = if (decide (9223372036854775808 ≤ x) ^^ decide (9223372036854775808 ≤ y)) then -((m * n * 2 ^ (p + q) : Nat) : Int) else ((m * n * 2 ^ (p + q) : Nat) : Int) := by
  have e : ((m * n * 2 ^ (p + q) : Nat) : Int) = ((m * 2 ^ p : Nat) : Int) * ((n * 2 ^ q : Nat) : Int) := by
    rw [← Int.natCast_mul]
    congr 1
    rw [Nat.pow_add, Nat.mul_assoc, Nat.mul_assoc, Nat.mul_left_comm n]
  rw [e, fa, fb]
  obtain ⟨A, hA⟩ : ∃ A : Int, ((m * 2 ^ p : Nat) : Int) = A := ⟨_, rfl⟩
  obtain ⟨B, hB⟩ : ∃ B : Int, ((n * 2 ^ q : Nat) : Int) = B := ⟨_, rfl⟩
  rw [hA, hB]
  by_cases c : 9223372036854775808 ≤ x <;> by_cases d : 9223372036854775808 ≤ y <;> simp [c, d, Int.neg_mul, Int.mul_neg]
/-- A product and a sum of finite numbers, rounded once. -/
theorem fma_rnd (x y z : Nat) (hx : x < 18446744073709551616) (hy : y < 18446744073709551616) (hz : z < 18446744073709551616) (fx : x % 9223372036854775808 < 9218868437227405312) (fy : y % 9223372036854775808 < 9218868437227405312) (fz : z % 9223372036854775808 < 9218868437227405312) :
    ∃ s, FloatKind.f64.format.fma x y z = some (signN s (rndM (sv x * sv y + sv z * ((2 ^ kH : Nat) : Int)).natAbs (-2148))) ∧ (sv x * sv y + sv z * ((2 ^ kH : Nat) : Int) ≠ 0 → s = decide (sv x * sv y + sv z * ((2 ^ kH : Nat) : Int) < 0)) := by
  obtain ⟨m, p, ex, vx⟩ := read_fin x hx fx
  obtain ⟨n, q, ey, vy⟩ := read_fin y hy fy
  obtain ⟨o, r, ez, vz⟩ := read_fin z hz fz
  have fa := xor_form x y m n p q (sv_form x m p vx) (sv_form y n q vy)
  have fc : sv z * ((2 ^ kH : Nat) : Int) = if (decide (9223372036854775808 ≤ z)) then -((o * 2 ^ (r + kH) : Nat) : Int) else ((o * 2 ^ (r + kH) : Nat) : Int) := by
    rw [sv_form z o r vz, Nat.pow_add, ← Nat.mul_assoc, Int.natCast_mul (o * 2 ^ r)]
    by_cases c : 9223372036854775808 ≤ z <;> simp only [c, decide_true, decide_false, if_true, if_false, Int.neg_mul, Bool.false_eq_true]
  obtain ⟨mag, b, e, hv⟩ := sum_valK 2148 _ _ (m * n) o (p + q) (r + kH) _ _ fa fc
  have k1 : (p : Int) - 1074 + ((q : Int) - 1074) = ((p + q : Nat) : Int) - 2148 := by omega
  have k2 : (r : Int) - 1074 = ((r + kH : Nat) : Int) - 2148 := by have := kH_is; omega
  obtain ⟨V, hV⟩ : ∃ V : Int, sv x * sv y + sv z * ((2 ^ kH : Nat) : Int) = V := ⟨_, rfl⟩
  rw [hV] at e hv ⊢
  unfold Ieee.Format.fma
  rw [ex, ey, ez]
  refine ⟨if V = 0 then (decide (9223372036854775808 ≤ x) ^^ decide (9223372036854775808 ≤ y)) && decide (9223372036854775808 ≤ z) else decide (V < 0), ?_, fun h => by rw [if_neg h]⟩
  show (((Ieee.Datum.number (decide (9223372036854775808 ≤ x) ^^ decide (9223372036854775808 ≤ y)) (m * n) ((p : Int) - 1074 + ((q : Int) - 1074))).sum (.number _ o ((r : Int) - 1074))).map _) = _
  rw [k1, k2, e]
  show some (FloatKind.f64.format.nearest _ mag ((b : Int) - 2148)) = _
  have := rndM_sc mag b ((b : Int) - 2148)
  rw [hv, show (b : Int) - 2148 - (b : Int) = -2148 by omega] at this
  rw [(near_rnd _ mag _).1, this]
theorem fin_fma (x y z : Nat) (a b c P : Int) (hx : Fin64 x a) (hy : Fin64 y b) (hz : Fin64 z c) (e : a * b = P * ((2 ^ kH : Nat) : Int)) (h : (P + c).natAbs ≤ 9007199254740992 * 2 ^ kG) : ∃ r, FloatKind.f64.format.fma x y z = some r ∧ Fin64 r (rz (P + c)) := by
  obtain ⟨x1, x2, rfl⟩ := hx
  obtain ⟨y1, y2, rfl⟩ := hy
  obtain ⟨z1, z2, rfl⟩ := hz
  obtain ⟨s, e1, hs⟩ := fma_rnd x y z x1 y1 z1 x2 y2 z2
  obtain ⟨f1, f2⟩ := fin_sc s _ (P + sv z) (by rw [e, Int.add_mul]) hs h
  exact ⟨_, e1.trans (congrArg some f1), f2⟩
theorem sc_mul {u v V T J M : Int} (h : u * v = V * T) : (u * J) * (v * M) = V * (T * (J * M)) := by
  rw [← Int.mul_assoc V, ← h, Int.mul_assoc u, Int.mul_left_comm J, ← Int.mul_assoc u]
/-- Dekker's product, by the machine. -/
theorem prod_core (x y h l i k : Nat) (a b H I P : Int) (hx : Fin64 x a) (hy : Fin64 y b) (vh : Fin64 h H) (vl : Fin64 l (a - H)) (vi : Fin64 i I) (vk : Fin64 k (b - I)) (hA : Halves a H) (hB : Halves b I) (e : a * b = P * ((2 ^ kH : Nat) : Int)) (hP : P.natAbs ≤ 2251799813685248 * 2 ^ kG) :
    ∃ p q1 q2 q3 q4 q5 q6 q7 r, FloatKind.f64.format.mul x y = some p ∧ FloatKind.f64.format.mul l k = some q1 ∧ FloatKind.f64.format.mul h i = some q2 ∧ FloatKind.f64.format.sub p q2 = some q3 ∧ FloatKind.f64.format.mul l i = some q4 ∧ FloatKind.f64.format.sub q3 q4 = some q5 ∧ FloatKind.f64.format.mul h k = some q6 ∧ FloatKind.f64.format.sub q5 q6 = some q7 ∧ FloatKind.f64.format.sub q1 q7 = some r
      ∧ Fin64 p (rz P) ∧ Fin64 r (P - rz P) ∧ Fz (P - rz P) ∧ (P - rz P).natAbs ≤ 9007199254740992 * 2 ^ kG := by
  obtain ⟨hi, li, hk, lk, e1, e2, e3, e4, ⟨f1, f2, f3, f4⟩, ⟨g1, g2, g3, g4⟩, eE, ⟨b1, b2, b3, b4⟩, ⟨c1, c2, c3, c4⟩⟩ : ∃ hi li hk lk : Int, H * I = hi * ((2 ^ kH : Nat) : Int) ∧ (a - H) * I = li * ((2 ^ kH : Nat) : Int) ∧ H * (b - I) = hk * ((2 ^ kH : Nat) : Int) ∧ (a - H) * (b - I) = lk * ((2 ^ kH : Nat) : Int)
      ∧ (Fz hi ∧ Fz li ∧ Fz hk ∧ Fz lk) ∧ (Fz (rz P - hi) ∧ Fz (rz P - hi - li) ∧ Fz (rz P - hi - li - hk) ∧ Fz (P - rz P)) ∧ lk - (rz P - hi - li - hk) = P - rz P
      ∧ (hi.natAbs ≤ 4 * P.natAbs ∧ li.natAbs ≤ 4 * P.natAbs ∧ hk.natAbs ≤ 4 * P.natAbs ∧ lk.natAbs ≤ 4 * P.natAbs) ∧ ((rz P - hi).natAbs ≤ 4 * P.natAbs ∧ (rz P - hi - li).natAbs ≤ 4 * P.natAbs ∧ (rz P - hi - li - hk).natAbs ≤ 4 * P.natAbs ∧ (P - rz P).natAbs ≤ 4 * P.natAbs) := by
    by_cases c : a = 0 ∨ b = 0
    · have hT0 : 0 < 2 ^ kH := Nat.two_pow_pos _
      have hP0 : P = 0 := by
        apply Classical.byContradiction
        intro h
        refine (sign_sc hT0 e).1.2 h ?_
        rcases c with c | c <;> rw [c] <;> simp
      have hz : ∀ {u v : Int}, u = 0 → Halves u v → v = 0 := fun {u v} hu hv => gap_zero (hv.dv v.natAbs (by rw [hu]; exact Int.dvd_zero _)) Nat.lt_two_pow_self
      have hr : rz P = 0 := by rw [hP0]; exact rz_exact Fz_zero
      have z0 : Fz 0 := Fz_zero
      have hh : H * I = 0 ∧ (a - H) * I = 0 ∧ H * (b - I) = 0 ∧ (a - H) * (b - I) = 0 := by
        rcases c with c | c
        · have := hz c hA; rw [c, this]; simp
        · have := hz c hB; rw [c, this]; simp
      rw [hr, hP0]
      refine ⟨0, 0, 0, 0, ?_, ?_, ?_, ?_, ⟨z0, z0, z0, z0⟩, ⟨z0, z0, z0, z0⟩, by omega, by omega, by omega⟩ <;> rw [Int.zero_mul]
      · exact hh.1
      · exact hh.2.1
      · exact hh.2.2.1
      · exact hh.2.2.2
    · have ha : a ≠ 0 := fun h => c (Or.inl h)
      have hb : b ≠ 0 := fun h => c (Or.inr h)
      obtain ⟨w1, w2, w3, w4⟩ := halves_whole a b H I kH ha hb hA hB ⟨P, by rw [e, Int.mul_comm]⟩
      obtain ⟨hi, e1⟩ := w1
      obtain ⟨li, e2⟩ := w2
      obtain ⟨hk, e3⟩ := w3
      obtain ⟨lk, e4⟩ := w4
      rw [Int.mul_comm _ hi] at e1
      rw [Int.mul_comm _ li] at e2
      rw [Int.mul_comm _ hk] at e3
      rw [Int.mul_comm _ lk] at e4
      obtain ⟨j, nA, dA, sA⟩ := hA.sc ha
      obtain ⟨m, nB, dB, sB⟩ := hB.sc hb
      have sc : ∀ {u v V : Int}, u * v = V * ((2 ^ kH : Nat) : Int) → (u * ((2 ^ j : Nat) : Int)) * (v * ((2 ^ m : Nat) : Int)) = V * ((2 ^ (kH + (j + m)) : Nat) : Int) := fun {u v V} h => by
        rw [pow_cast_add, pow_cast_add]
        exact sc_mul h
      refine ⟨hi, li, hk, lk, e1, e2, e3, e4, dekker _ _ _ _ nA dA nB dB (kH + (j + m)) sA sB P hi li hk lk (sc e) (sc e1) ?_ ?_ ?_⟩
      · rw [← Int.sub_mul]; exact sc e2
      · rw [← Int.sub_mul]; exact sc e3
      · rw [← Int.sub_mul, ← Int.sub_mul]; exact sc e4
  obtain ⟨M, hM⟩ : ∃ M, 2 ^ kG = M := ⟨_, rfl⟩
  rw [hM] at hP ⊢
  have hb : ∀ {V : Int}, V.natAbs ≤ 4 * P.natAbs → V.natAbs ≤ 9007199254740992 * 2 ^ kG := fun {V} h => by rw [hM]; omega
  obtain ⟨p, hp1, hp2⟩ := fin_mul x y a b P hx hy e (hb (by omega))
  obtain ⟨q1, m1, n1⟩ := fin_mul l k _ _ lk vl vk e4 (hb b4)
  obtain ⟨q2, m2, n2⟩ := fin_mul h i _ _ hi vh vi e1 (hb b1)
  obtain ⟨q4, m4, n4⟩ := fin_mul l i _ _ li vl vi e2 (hb b2)
  obtain ⟨q6, m6, n6⟩ := fin_mul h k _ _ hk vh vk e3 (hb b3)
  rw [rz_exact f4] at n1
  rw [rz_exact f1] at n2
  rw [rz_exact f2] at n4
  rw [rz_exact f3] at n6
  obtain ⟨q3, m3, n3, _⟩ := fin_sub p q2 _ _ hp2 n2 (hb c1)
  rw [rz_exact g1] at n3
  obtain ⟨q5, m5, n5, _⟩ := fin_sub q3 q4 _ _ n3 n4 (hb c2)
  rw [rz_exact g2] at n5
  obtain ⟨q7, m7, n7, _⟩ := fin_sub q5 q6 _ _ n5 n6 (hb c3)
  rw [rz_exact g3] at n7
  obtain ⟨r, m8, n8, _⟩ := fin_sub q1 q7 _ _ n1 n7 (by rw [eE]; exact hb c4)
  rw [eE, rz_exact g4] at n8
  exact ⟨p, q1, q2, q3, q4, q5, q6, q7, r, hp1, m1, m2, m3, m4, m5, m6, m7, m8, hp2, n8, g4, by have := hb c4; rw [hM] at this; exact this⟩
end Go.Proofs.YtehnkgonhgjeiaaGreatDoor
