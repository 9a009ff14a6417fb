
/- What eft's signOf, Det and Turn do: the sign of the exact number, or ErrNumber. -/
import Derived.Test.YtphdinjmkhefmaaGreatDoorP34
import Derived.Test.YtphdinjmkhefmaaGreatDoorP35
import Derived.Test.YtphdinjmkhefmaaGreatDoorP29
import Derived.Test.YtphdinjmkhefmaaGreatDoorP30
import Derived.Test.YtphdinjmkhefmaaGreatDoorP3
import Derived.Test.YtphdinjmkhefmaaGreatDoorP4
import Derived.WalkKit
namespace Go.Proofs.YtphdinjmkhefmaaGreatDoor
open Go.RowKit Go.IntWalk

def sgnE (z : Int) : Int := if z = 0 then 0 else if z < 0 then -1 else 1
theorem sgnE_neg (z : Int) : sgnE (-z) = -sgnE z := by
  unfold sgnE
  split <;> split <;> (try split) <;> (try split) <;> omega
theorem sgnE_le (z : Int) : -1 ≤ sgnE z ∧ sgnE z ≤ 1 := by
  unfold sgnE
  split
  · omega
  · split <;> omega
theorem flip_md (x : Nat) (hx : x < 18446744073709551616) : flipOf x % 9223372036854775808 = x % 9223372036854775808 ∧ (9223372036854775808 ≤ flipOf x ↔ ¬ 9223372036854775808 ≤ x) := by
  unfold flipOf
  split <;> omega
theorem sv_flip (x : Nat) (hx : x < 18446744073709551616) : sv (flipOf x) = -sv x := by
  obtain ⟨h1, h2⟩ := flip_md x hx
  unfold sv
  rw [h1]
  by_cases c : 9223372036854775808 ≤ x
  · rw [if_pos c, if_neg (fun d => h2.1 d c), Int.neg_neg]
  · rw [if_neg c, if_pos (h2.2 c)]
theorem exp_flip (x : Nat) (hx : x < 18446744073709551616) : (expOf (flipOf x) == 2047) = (expOf x == 2047) := by
  obtain ⟨h1, h2⟩ := flip_md x hx
  have hf := flip_lt hx
  rw [Bool.eq_iff_iff, beq_iff_eq, beq_iff_eq]
  unfold expOf canonOf
  rw [h1]
  by_cases c : 9218868437227405312 < x % 9223372036854775808
  · rw [if_pos c, if_pos c]
  · rw [if_neg c, if_neg c]
    omega
theorem neg_flip (x : Nat) (hx : x < 18446744073709551616) : Op.unary .neg (.float .f64 x) = pure (.float .f64 (flipOf x)) := by
  have h := xor_sign x hx
  have h2 := u64_xor_nat x 9223372036854775808 hx (by omega)
  have e : x ^^^ 9223372036854775808 = flipOf x := by
    have h3 := h2.symm.trans h
    omega
  rw [← e]
  rfl
end Go.Proofs.YtphdinjmkhefmaaGreatDoor

namespace Go.Proofs.YtphdinjmkhefmaaGreatDoor
open Go.RowKit Go.IntWalk

theorem numsL (V : World) (b : Nat) (zs : List Nat) (T : TypeId) (h : V.heap[b]? = some (.cells ((zs.map (fun z => Value.float .f64 z)).toArray) T)) : NumsAt V b 0 zs :=
  ⟨(Array.getElem?_eq_some_iff.1 h).1, fun i hi => by
    simp [World.cell?, h, hi, List.getD]⟩
theorem two_blkE (w : World) (A B : Obj) : ((w.alloc A).alloc B).heap[w.heap.size]? = some A ∧ ((w.alloc A).alloc B).heap[w.heap.size + 1]? = some B := by
  have h1 : (w.alloc A).heap.size = w.heap.size + 1 := by simp
  constructor
  · rw [((Below.refl (w.alloc A).heap.size (w.alloc A)).alloc (Nat.le_refl _) B).block w.heap.size (by omega)]
    exact new_blk w A _ rfl
  · exact new_blk (w.alloc A) B _ h1.symm
theorem finl_of {zs : List Nat} (h : ∀ z, z ∈ zs → z < 18446744073709551616 ∧ z % 9223372036854775808 < 9218868437227405312) : FinL zs := fun i hi => by
  have : zs.getD i 0 ∈ zs := by rw [List.getD_eq_getElem?_getD, List.getElem?_eq_getElem hi]; exact List.getElem_mem hi
  exact h _ this
theorem bitl_of {zs : List Nat} (h : ∀ z, z ∈ zs → z < 18446744073709551616) : BitL zs := fun i hi => by
  have : zs.getD i 0 ∈ zs := by rw [List.getD_eq_getElem?_getD, List.getElem?_eq_getElem hi]; exact List.getElem_mem hi
  exact h _ this
def finB (x : Nat) : Bool := !(expOf x == 2047)
theorem finB_is (x : Nat) (h : finB x = true) : x % 9223372036854775808 < 9218868437227405312 := by
  unfold finB at h
  have h1 : expOf x ≠ 2047 := by simpa using h
  unfold expOf canonOf at h1
  split at h1 <;> omega
theorem finB_flip (x : Nat) (hx : x < 18446744073709551616) : finB (flipOf x) = finB x := by unfold finB; rw [exp_flip x hx]
/-- The sign, and the error. -/
def detV (a b c d : Nat) : Int := sv a * sv d - sv b * sv c
def detF (a b c d : Nat) : Bool := finB a && finB b && finB c && finB d
def detS (a b c d : Nat) : Int := if detF a b c d then sgnE (detV a b c d) else 0
def detE (a b c d : Nat) : Int := if detF a b c d then 0 else 4
end Go.Proofs.YtphdinjmkhefmaaGreatDoor

namespace Go.Proofs.YtphdinjmkhefmaaGreatDoor
open Go.RowKit Go.IntWalk

def turnV (p q r s t u : Nat) : Int := sv p * sv s - sv p * sv u + sv r * sv u - sv r * sv q + sv t * sv q - sv t * sv s
def turnF (p q r s t u : Nat) : Bool := finB p && finB q && finB r && finB s && finB t && finB u
def turnS (p q r s t u : Nat) : Int := if turnF p q r s t u then sgnE (turnV p q r s t u) else 0
def turnE (p q r s t u : Nat) : Int := if turnF p q r s t u then 0 else 4
theorem turn_cycle (p q r s t u : Nat) : turnS r s t u p q = turnS p q r s t u ∧ turnE r s t u p q = turnE p q r s t u := by
  have h1 : turnF r s t u p q = turnF p q r s t u := by
    unfold turnF
    cases finB p <;> cases finB q <;> cases finB r <;> cases finB s <;> cases finB t <;> cases finB u <;> rfl
  have h2 : turnV r s t u p q = turnV p q r s t u := by unfold turnV; omega
  unfold turnS turnE
  rw [h1, h2]
  exact ⟨rfl, rfl⟩
theorem turn_swap (p q r s t u : Nat) : turnS r s p q t u = -turnS p q r s t u ∧ turnE r s p q t u = turnE p q r s t u := by
  have h1 : turnF r s p q t u = turnF p q r s t u := by
    unfold turnF
    cases finB p <;> cases finB q <;> cases finB r <;> cases finB s <;> cases finB t <;> cases finB u <;> rfl
  have h2 : turnV r s p q t u = -turnV p q r s t u := by unfold turnV; omega
  unfold turnS turnE
  rw [h1, h2, sgnE_neg]
  refine ⟨?_, rfl⟩
  split <;> simp
theorem det_swap (a b c d : Nat) : detS c d a b = -detS a b c d ∧ detE c d a b = detE a b c d ∧ detS b a d c = -detS a b c d ∧ detE b a d c = detE a b c d := by
  have h1 : detF c d a b = detF a b c d ∧ detF b a d c = detF a b c d := by
    unfold detF
    cases finB a <;> cases finB b <;> cases finB c <;> cases finB d <;> exact ⟨rfl, rfl⟩
  have h2 : detV c d a b = -detV a b c d := by unfold detV; rw [Int.mul_comm (sv c), Int.mul_comm (sv d)]; omega
  have h3 : detV b a d c = -detV a b c d := by unfold detV; omega
  unfold detS detE
  rw [h1.1, h1.2, h2, h3, sgnE_neg]
  refine ⟨?_, rfl, ?_, rfl⟩ <;> (split <;> simp)
theorem turnS_le (p q r s t u : Nat) : -1 ≤ turnS p q r s t u ∧ turnS p q r s t u ≤ 1 := by
  unfold turnS
  split
  · exact sgnE_le _
  · omega
theorem detS_le (a b c d : Nat) : -1 ≤ detS a b c d ∧ detS a b c d ≤ 1 := by
  unfold detS
  split
  · exact sgnE_le _
  · omega
end Go.Proofs.YtphdinjmkhefmaaGreatDoor

namespace Go.Proofs.YtphdinjmkhefmaaGreatDoor
open Go.RowKit Go.IntWalk

theorem NumAt.ne_x {W : World} {p b bd : Nat} {v e : Int} {q : Option Addr} (h : NumAt W p v bd) (hb : W.heap[b]? = some (XBox q e)) : p ≠ b := by
  intro c
  subst c
  obtain ⟨neg, L, _, _, a, cap, ho, _⟩ := h
  rw [ho] at hb
  unfold XBox at hb
  simp at hb
theorem ExV.stored {W : World} {p b bd : Nat} {e B z e0 : Int} {q : Option Addr} (h : ExV W p e B z bd) (hb : W.heap[b]? = some (XBox q e0)) (x y : Value) : ExV ((W.setCell ⟨b, 0, none⟩ x).setCell ⟨b, 1, none⟩ y) p e B z bd := by
  obtain ⟨v, k, f1, f2, f3⟩ := h
  exact ⟨v, k, f1.stored (f1.ne_x hb) hb x y, f2, f3⟩
theorem rb_of {w W : World} (h : Below (w.alloc (XBox none 0)).heap.size (w.alloc (XBox none 0)) W) : W.heap[w.heap.size]? = some (XBox none 0) := by
  rw [h.block _ (by simp)]
  exact new_blk _ _ _ rfl
end Go.Proofs.YtphdinjmkhefmaaGreatDoor

namespace Go.Proofs.YtphdinjmkhefmaaGreatDoor
open Go.RowKit Go.IntWalk

theorem NumAt.tight {w : World} {p bd : Nat} {v : Int} (h : NumAt w p v bd) (k : Nat) (hv : v.natAbs < 4294967296 ^ k) : NumAt w p v k := by
  obtain ⟨neg, L, h1, h2, h3⟩ := h
  refine ⟨neg, L, h1, ?_, h3⟩
  obtain ⟨a, cap, ho, hcap, hm, hd, hc, hn⟩ := h3
  refine len_small L k hc ?_
  have : v.natAbs = natL L := by rw [← h1]; unfold intL; split <;> omega
  rw [← this]
  exact hv
theorem ExV.tight {w : World} {p bd : Nat} {e B z : Int} (h : ExV w p e B z bd) (k : Nat) (hz : z.natAbs < 4294967296 ^ k) : ExV w p e B z k := by
  obtain ⟨v, j, h1, h2, h3⟩ := h
  refine ⟨v, j, h1.tight k ?_, h2, h3⟩
  have e : z.natAbs = v.natAbs * 2 ^ j := by rw [h3, Int.natAbs_mul, Int.natAbs_pow]; rfl
  have : v.natAbs * 1 ≤ v.natAbs * 2 ^ j := Nat.mul_le_mul_left _ (Nat.two_pow_pos j)
  omega
theorem sum_le (zs : List Nat) (hf : FinL zs) : ∀ k, k ≤ zs.length → (sumSv zs k).natAbs ≤ k * 2 ^ kN
  | 0, _ => by show (0 : Int).natAbs ≤ _; simp
  | k + 1, hk => by
    have ih := sum_le zs hf k (by omega)
    obtain ⟨_, _, _, j3, _⟩ := sv_parts (zs.getD k 0) (hf k (by omega)).2
    show (sumSv zs k + sv (zs.getD k 0)).natAbs ≤ (k + 1) * 2 ^ kN
    rw [Nat.add_mul, Nat.one_mul]
    omega
theorem pw32 (m : Nat) : (4294967296 : Nat) ^ m = 2 ^ (32 * m) := by rw [show (4294967296 : Nat) = 2 ^ 32 by decide, ← Nat.pow_mul]
theorem small_bd (n k m : Nat) (hn : n ≤ 17592186044416) (h : k + 44 < 32 * m) : n * 2 ^ k < 4294967296 ^ m := by
  rw [pw32]
  have h1 : n * 2 ^ k ≤ 2 ^ (44 + k) := by rw [Nat.pow_add]; exact Nat.mul_le_mul_right _ (by rw [show (2 : Nat) ^ 44 = 17592186044416 by decide]; exact hn)
  exact Nat.lt_of_le_of_lt h1 (Nat.pow_lt_pow_right (by decide) (by omega))
set_option maxRecDepth 4000 in
set_option maxHeartbeats 1000000 in
theorem xZero_any (w : World) : Calls Tryz.prog 7 #[] w fun r w' => ∃ q, r = .returned (.agg #[.pointer (some ⟨q, 0, none⟩), .int .i64 0]) ∧ NumAt w' q 0 0 ∧ Below w.heap.size w w' := by
  go_enter Tryz.func7, Tryz.ntmps7
  go_wp2
  have h1 := fresh_num (w.alloc (XBox (some ⟨w.heap.size + 1, 0, none⟩) 0))
  rw [show (w.alloc (XBox (some ⟨w.heap.size + 1, 0, none⟩) 0)).heap.size = w.heap.size + 1 by simp] at h1
  exact bodyPost_ret (v := .agg #[.pointer (some ⟨w.heap.size + 1, 0, none⟩), .int .i64 0]) (by simp [results, Tryz.results7, go_sem]) rfl ⟨w.heap.size + 1, rfl, h1, ((Below.refl _ _).alloc (Nat.le_refl _) _).alloc (by simp) _⟩
/-- What is kept while a list is added up: the sum's box, the result's. -/
def SumW (w W0 wr : World) (sb : Nat) (z B hi : Int) : Prop := ∃ p e, wr.heap[sb]? = some (XBox (some ⟨p, 0, none⟩) e) ∧ ExV wr p e B z 200 ∧ (B ≤ e ∧ e ≤ hi) ∧ Below w.heap.size w wr ∧ wr.heap[w.heap.size]? = some (XBox none 0) ∧ W0.heap.size ≤ wr.heap.size
theorem box_set {W : World} {b : Nat} {q q' : Option Addr} {e e' : Int} (h : W.heap[b]? = some (XBox q e)) : ((W.setCell ⟨b, 0, none⟩ (.pointer q')).setCell ⟨b, 1, none⟩ (.int .i64 e')).heap[b]? = some (XBox q' e') := by
  unfold XBox at h ⊢
  simp [World.setCell, Array.getElem?_modify, h]
theorem box_keep {W : World} {a b : Nat} (hab : a ≠ b) (x y : Value) : ((W.setCell ⟨b, 0, none⟩ x).setCell ⟨b, 1, none⟩ y).heap[a]? = W.heap[a]? := by
  simp [World.setCell, Array.getElem?_modify, hab.symm]
theorem SumW.next {w W0 wr w' : World} {sb p4 : Nat} {e4 z z' B hi : Int} (h : SumW w W0 wr sb z B hi) (hb : Below wr.heap.size wr w') (hsb : w.heap.size < sb) (hx : ExV w' p4 e4 B z' 200) (he : B ≤ e4 ∧ e4 ≤ hi) :
    SumW w W0 ((w'.setCell ⟨sb, 0, none⟩ (.pointer (some ⟨p4, 0, none⟩))).setCell ⟨sb, 1, none⟩ (.int .i64 e4)) sb z' B hi := by
  obtain ⟨p, e, h1, h2, h3, h4, h5, h6⟩ := h
  have k1 : w'.heap[sb]? = some (XBox (some ⟨p, 0, none⟩) e) := by rw [hb.block _ (Array.getElem?_eq_some_iff.1 h1).1]; exact h1
  have k5 : w'.heap[w.heap.size]? = some (XBox none 0) := by rw [hb.block _ (Array.getElem?_eq_some_iff.1 h5).1]; exact h5
  refine ⟨p4, e4, box_set k1, hx.stored k1 _ _, he, Below.setCell (Below.setCell (h4.trans (hb.mono h4.size)) (Nat.le_of_lt hsb) _) (Nat.le_of_lt hsb) _, by rw [box_keep (by omega)]; exact k5, ?_⟩
  have := hb.size
  simp
  omega
set_option maxRecDepth 4000 in
set_option maxHeartbeats 4000000 in
theorem xSum_fin (zs : List Nat) (b off cap : Nat) (w : World) (hm : NumsAt w b off zs) (hf : FinL zs) (hn : zs.length ≤ 17592186043904) :
    Calls Tryz.prog 9 #[.slice (some ⟨b, off, none⟩) zs.length cap] w fun r w' => ∃ p e, r = .returned (.agg #[.pointer (some ⟨p, 0, none⟩), .int .i64 e]) ∧ (-1074 ≤ e ∧ e ≤ 2000) ∧ ExV w' p e (-1074) (sumSv zs zs.length) 200 ∧ Below w.heap.size w w' := by
  have HM := hid hm
  have HF := hid hf
  have HSM : Hid (∀ k, k ≤ zs.length → (sumSv zs k).natAbs < 4294967296 ^ 200) := fun k hk => Nat.lt_of_le_of_lt (sum_le zs hf k hk) (small_bd k kN 200 (by omega) (by decide))
  obtain ⟨n, hnl⟩ : ∃ n, Hid (zs.length = n) := ⟨_, rfl⟩
  rw [hnl.out] at hn HSM ⊢
  have hblt := hm.1
  clear hm hf
  go_enter Tryz.func9, Tryz.ntmps9
  go_wp2_with fail
  refine (xZero_any _).mono ?_
  rintro r w1 ⟨q, rfl, hn1, hb1⟩
  have HS1 : Hid (w.heap.size < w1.heap.size) := by have := hb1.size; simp at this; show w.heap.size < w1.heap.size; omega
  have HW0 : Hid (SumW w w1 (w1.alloc (XBox (some ⟨q, 0, none⟩) 0)) w1.heap.size 0 (-1074) 2000) := by
    have hal : Below w1.heap.size w1 (w1.alloc (XBox (some ⟨q, 0, none⟩) 0)) := (Below.refl _ _).alloc (Nat.le_refl _) _
    have hb0 : Below w.heap.size w w1 := ((Below.refl _ _).alloc (Nat.le_refl _) _).trans (hb1.mono (by simp))
    refine ⟨q, 0, new_blk _ _ _ rfl, ⟨0, 1074, (hn1.below hal).more (by omega), by decide, by rw [Int.zero_mul]⟩, by decide, hb0.trans (hal.mono hb0.size), ?_, by simp⟩
    rw [hal.block _ HS1.out, hb1.block _ (by simp)]
    exact new_blk _ _ _ rfl
  obtain ⟨V0, hV0⟩ : ∃ V, Hid (w1.alloc (XBox (some ⟨q, 0, none⟩) 0) = V) := ⟨_, rfl⟩
  rw [hV0.out] at HW0
  unfold XBox at hV0
  clear hn1 hb1
  go_wp2_with fail
  rw [hV0.out]
  obtain ⟨sb, hsb⟩ : ∃ sb, Hid (w1.heap.size = sb) := ⟨_, rfl⟩
  rw [hsb.out] at HW0 HS1 ⊢
  go_loopw [9] (fun i wr => ∃ k : Nat, k ≤ n ∧ i = .int .i64 k ∧ Hid (SumW w w1 wr sb (sumSv zs k) (-1074) 2000)) (fun i _ => n - (intOf i).toNat)
  case atStart => exact ⟨0, Nat.zero_le _, rfl, HW0⟩
  case round =>
    obtain ⟨k, hk, rfl, HS⟩ := hrel
    obtain ⟨p, e, s1, s2, s3, s4, s5, s6⟩ := id HS.out
    by_cases hlt : k < n
    · have hck : wr.cell? ⟨b, off + k, none⟩ = some (.float .f64 (zs.getD k 0)) := (HM.out.below s4).2 k (by rw [hnl.out]; exact hlt)
      have hds : sumSv zs (k + 1) = sumSv zs k + sv (zs.getD k 0) := rfl
      obtain ⟨x1, x2⟩ := HF.out k (by rw [hnl.out]; exact hlt)
      obtain ⟨x, hx⟩ : ∃ x, Hid (zs.getD k 0 = x) := ⟨_, rfl⟩
      rw [hx.out] at hck x1 x2 hds
      have HSB : Hid (sb < wr.heap.size) := (Array.getElem?_eq_some_iff.1 s1).1
      have HBR : Hid (b < wr.heap.size) := Nat.lt_of_lt_of_le hblt s4.size
      have HK : Hid (∀ W, Below wr.heap.size wr W → W.cell? ⟨sb, 0, none⟩ = some (.pointer (some ⟨p, 0, none⟩)) ∧ W.cell? ⟨sb, 1, none⟩ = some (.int .i64 e) ∧ (∀ o, W.frozen? ⟨sb, o, none⟩ = false)) := fun W hW => xcells_of ((hW.block _ HSB.out).trans s1)
      obtain ⟨y0, y1, _⟩ := HK.out wr (Below.refl _ _)
      have HOF : Hid (∀ W, Hid (Below wr.heap.size wr W) → Calls Tryz.prog 21 #[.float .f64 x] W fun r w' => ∃ p3 e3, r = .returned (.agg #[.pointer (some ⟨p3, 0, none⟩), .int .i64 e3]) ∧ Hid ((-1074 ≤ e3 ∧ e3 ≤ 2000) ∧ ExV w' p3 e3 (-1074) (sv x) 2) ∧ Hid (Below wr.heap.size wr w') ∧ (w'.cell? ⟨sb, 0, none⟩ = some (.pointer (some ⟨p, 0, none⟩)) ∧ w'.cell? ⟨sb, 1, none⟩ = some (.int .i64 e) ∧ (∀ o, w'.frozen? ⟨sb, o, none⟩ = false))) := fun W hW => by
        refine (xOf_fin x W x1 x2).mono ?_
        rintro r w' ⟨p3, e3, rfl, h1, h2, h3⟩
        have hb := hW.out.trans (h3.mono hW.out.size)
        exact ⟨p3, e3, rfl, ⟨h1, h2⟩, hb, HK.out _ hb⟩
      have HADD : Hid (∀ W p3 e3, Hid (Below wr.heap.size wr W) → Hid ((-1074 ≤ e3 ∧ e3 ≤ 2000) ∧ ExV W p3 e3 (-1074) (sv x) 2) → Calls Tryz.prog 20 #[.agg #[.pointer (some ⟨p, 0, none⟩), .int .i64 e], .agg #[.pointer (some ⟨p3, 0, none⟩), .int .i64 e3]] W fun r w' => ∃ p4 e4, r = .returned (.agg #[.pointer (some ⟨p4, 0, none⟩), .int .i64 e4]) ∧ Hid (SumW w w1 ((w'.setCell ⟨sb, 0, none⟩ (.pointer (some ⟨p4, 0, none⟩))).setCell ⟨sb, 1, none⟩ (.int .i64 e4)) sb (sumSv zs (k + 1)) (-1074) 2000) ∧ (w'.cell? ⟨sb, 0, none⟩ = some (.pointer (some ⟨p, 0, none⟩)) ∧ w'.cell? ⟨sb, 1, none⟩ = some (.int .i64 e) ∧ (∀ o, w'.frozen? ⟨sb, o, none⟩ = false))) := fun W p3 e3 hW h3 => by
        have hs2 := s2.below hW.out
        obtain ⟨⟨g1, g2⟩, g3⟩ := h3.out
        refine (xAdd_val p p3 200 2 e e3 (-1074) _ _ W hs2 g3 (by decide) (by decide) (by omega) (by omega)).mono ?_
        rintro r w' ⟨p4, e4, rfl, ⟨f1, f2⟩, f3, f4⟩
        rw [← hds] at f3
        have hbw : Below wr.heap.size wr w' := hW.out.trans (f4.mono hW.out.size)
        exact ⟨p4, e4, rfl, HS.out.next hbw HS1.out (f3.tight 200 (HSM.out (k + 1) (by omega))) ⟨f1, by omega⟩, HK.out _ hbw⟩
      have HQ0 : Hid (Below wr.heap.size wr wr.drew) := (Below.refl _ _).drew
      have hkI : (k : Int) < (n : Int) := by omega
      have hk0 : (0 : Int) ≤ (k : Int) := by omega
      clear s1 s2 s3 s4 s5 s6 x1 x2 hds
      go_wp2_with fail
      go_region_with (first
          | (go_at_call 21; refine (HOF.out _ HQ0).mono ?_; rintro r w3 ⟨p3, e3, rfl, HX3, HF3, ⟨v0, v1, v2⟩⟩)
          | (go_at_call 20; refine (HADD.out _ _ _ HF3 HX3).mono ?_; rintro r w4 ⟨p4, e4, rfl, HX4, ⟨u0, u1, u2⟩⟩))
      all_goals
        go_wp2
        refine ⟨⟨k + 1, by omega, by go_num, HX4⟩, ?_⟩
        simp [intOf]; omega
    · have hkn : k = n := by omega
      subst hkn
      obtain ⟨y0, y1, y2⟩ := xcells_of s1
      obtain ⟨t0, t1, t2⟩ := xcells_of s5
      have HX := hid (show ExV _ p e (-1074) (sumSv zs k) 200 ∧ (-1074 ≤ e ∧ e ≤ 2000) from ⟨s2, s3⟩)
      have HB := hid s4
      have HR := hid s5
      clear s1 s2 s3 s4 s5 s6
      go_wp2
      exact bodyPost_ret (v := .agg #[.pointer (some ⟨p, 0, none⟩), .int .i64 e]) (by simp [results, Tryz.results9, go_sem, t0, t1]) rfl ⟨p, e, rfl, HX.out.2, HX.out.1.stored HR.out _ _, Below.setCell (Below.setCell HB.out (Nat.le_refl _) _) (Nat.le_refl _) _⟩
end Go.Proofs.YtphdinjmkhefmaaGreatDoor

namespace Go.Proofs.YtphdinjmkhefmaaGreatDoor
open Go.RowKit Go.IntWalk

theorem info_f : (Tryz.prog.info? 43).map (fun i => (i.zero, i.size, i.bytes)) = some (some (.float .f64 0), 1, 8) := by kernel_rfl
/-- The numbers that a slice made here owns. -/
def Owns (w : World) (base : Nat) (v : Value) (xs : List Nat) : Prop := w.ownsRow base 43 1 v xs.length (xs.map (Value.float .f64))
end Go.Proofs.YtphdinjmkhefmaaGreatDoor
