
/- What dyad's Sum and Dot answer of what is not finite. -/
import Derived.Test.YtpjdmhidhllbkaaDoorP40
import Derived.Test.YtpjdmhidhllbkaaDoorP2
namespace Go.Proofs.YtpjdmhidhllbkaaDoor
open Go.RowKit Go.IntWalk

def BitL (zs : List Nat) : Prop := ∀ i, i < zs.length → zs.getD i 0 < 18446744073709551616
set_option maxHeartbeats 1000000 in
theorem Sum_bad (zs : List Nat) (b off cap : Nat) (w : World) (hm : NumsAt w b off zs) (hz : BitL zs) (hf : allFin zs = false) (hn : zs.length ≤ 140737488355328) :
    Calls Tryd.prog 24 #[.slice (some ⟨b, off, none⟩) zs.length cap] w fun r w' => r = .returned (.tuple #[.agg #[.bool false, .slice none 0 0, .int .i64 0], .int .i64 4]) ∧ Below w.heap.size w w' := by
  have HFI : Hid (∀ W, Below w.heap.size w W → Calls Tryd.prog 22 #[.slice (some ⟨b, off, none⟩) zs.length cap] W fun r w' => r = .returned (.bool false) ∧ Below W.heap.size W w') := fun W hW => by
    have hmW := hm.below hW
    have := Finite_any zs b off cap W hmW.1 hmW.2 hz hn
    rw [hf] at this
    exact this
  obtain ⟨n, hnl⟩ : ∃ n, Hid (zs.length = n) := ⟨_, rfl⟩
  rw [hnl.out] at HFI ⊢
  clear hm hz hf hn
  go_enter Tryd.func24, Tryd.ntmps24
  go_wp2_with fail
  refine (HFI.out _ ((Below.refl _ _).alloc (Nat.le_refl _) _)).mono ?_
  rintro r w1 ⟨rfl, hb1⟩
  have hsz : w.heap.size < w1.heap.size := by have := hb1.size; simp at this; omega
  obtain ⟨hc, hf⟩ := bcell hb1
  have HB1 : Hid (Below w.heap.size w w1) := ((Below.refl _ _).alloc (Nat.le_refl _) _).trans (hb1.mono (by simp))
  clear hb1
  go_wp2
  exact bodyPost_ret (v := .tuple #[.agg #[.bool false, .slice none 0 0, .int .i64 0], .int .i64 4]) (by simp [results, Tryd.results24, go_sem, hc]) rfl ⟨rfl, Below.setCell (Below.setCell (Below.setCell HB1.out (Nat.le_refl _) _) (Nat.le_refl _) _) (Nat.le_refl _) _⟩
set_option maxHeartbeats 1000000 in
theorem Dot_bad (xs ys : List Nat) (b off cap b2 off2 cap2 : Nat) (w : World) (hlen : ys.length = xs.length) (hm : NumsAt w b off xs) (hm2 : NumsAt w b2 off2 ys) (hz : BitL xs) (hz2 : BitL ys) (hf : (allFin xs && allFin ys) = false) (hn : xs.length ≤ 140737488355328) :
    Calls Tryd.prog 29 #[.slice (some ⟨b, off, none⟩) xs.length cap, .slice (some ⟨b2, off2, none⟩) ys.length cap2] w fun r w' => r = .returned (.tuple #[.agg #[.bool false, .slice none 0 0, .int .i64 0], .int .i64 4]) ∧ Below w.heap.size w w' := by
  have HFI : Hid (∀ W, Below w.heap.size w W → Calls Tryd.prog 22 #[.slice (some ⟨b, off, none⟩) xs.length cap] W fun r w' => r = .returned (.bool (allFin xs)) ∧ Below W.heap.size W w') := fun W hW => by
    have hmW := hm.below hW
    exact Finite_any xs b off cap W hmW.1 hmW.2 hz hn
  have HFI2 : Hid (∀ W, Below w.heap.size w W → Calls Tryd.prog 22 #[.slice (some ⟨b2, off2, none⟩) ys.length cap2] W fun r w' => r = .returned (.bool (allFin ys)) ∧ Below W.heap.size W w') := fun W hW => by
    have hmW := hm2.below hW
    exact Finite_any ys b2 off2 cap2 W hmW.1 hmW.2 hz2 (by omega)
  obtain ⟨n, hnl⟩ : ∃ n, Hid (xs.length = n) := ⟨_, rfl⟩
  have hnl2 : Hid (ys.length = n) := hlen.trans hnl.out
  rw [hnl.out] at HFI ⊢
  rw [hnl2.out] at HFI2 ⊢
  obtain ⟨f1, hf1⟩ : ∃ f, Hid (allFin xs = f) := ⟨_, rfl⟩
  obtain ⟨f2, hf2⟩ : ∃ f, Hid (allFin ys = f) := ⟨_, rfl⟩
  rw [hf1.out] at HFI hf
  rw [hf2.out] at HFI2 hf
  clear hm hm2 hz hz2 hn hlen hf1 hf2
  cases f1
  · clear hf HFI2
    go_enter Tryd.func29, Tryd.ntmps29
    go_wp2_with fail
    refine (HFI.out _ ((Below.refl _ _).alloc (Nat.le_refl _) _)).mono ?_
    rintro r w1 ⟨rfl, hb1⟩
    have hsz : w.heap.size < w1.heap.size := by have := hb1.size; simp at this; omega
    obtain ⟨hc, hf⟩ := bcell hb1
    have HB1 : Hid (Below w.heap.size w w1) := ((Below.refl _ _).alloc (Nat.le_refl _) _).trans (hb1.mono (by simp))
    clear hb1
    go_wp2
    exact bodyPost_ret (v := .tuple #[.agg #[.bool false, .slice none 0 0, .int .i64 0], .int .i64 4]) (by simp [results, Tryd.results29, go_sem, hc]) rfl ⟨rfl, Below.setCell (Below.setCell (Below.setCell HB1.out (Nat.le_refl _) _) (Nat.le_refl _) _) (Nat.le_refl _) _⟩
  · cases f2
    · clear hf
      go_enter Tryd.func29, Tryd.ntmps29
      go_wp2_with fail
      refine (HFI.out _ ((Below.refl _ _).alloc (Nat.le_refl _) _)).mono ?_
      rintro r w0 ⟨rfl, hb0⟩
      have HBW0 : Hid (Below w.heap.size w w0) := ((Below.refl _ _).alloc (Nat.le_refl _) _).trans (hb0.mono (by simp))
      have hsz0 : w.heap.size < w0.heap.size := by have := hb0.size; simp at this; omega
      obtain ⟨hc0, hf0⟩ := bcell hb0
      clear hb0
      go_wp2_with fail
      refine (HFI2.out _ HBW0.out).mono ?_
      rintro r w1 ⟨rfl, hb1⟩
      have hsz : w.heap.size < w1.heap.size := by have := hb1.size; omega
      obtain ⟨hc, hf⟩ := bcell hb1
      have HB1 : Hid (Below w.heap.size w w1) := HBW0.out.trans (hb1.mono HBW0.out.size)
      clear hb1
      go_wp2
      exact bodyPost_ret (v := .tuple #[.agg #[.bool false, .slice none 0 0, .int .i64 0], .int .i64 4]) (by simp [results, Tryd.results29, go_sem, hc, hc0, hsz0]) rfl ⟨rfl, Below.setCell (Below.setCell (Below.setCell HB1.out (Nat.le_refl _) _) (Nat.le_refl _) _) (Nat.le_refl _) _⟩
    · exact absurd hf (by decide)
end Go.Proofs.YtpjdmhidhllbkaaDoor

namespace Go.Proofs.YtpjdmhidhllbkaaDoor
open Go.RowKit Go.IntWalk

def sgnE (z : Int) : Int := if z = 0 then 0 else if z < 0 then -1 else 1
theorem sgnE_neg (z : Int) : sgnE (-z) = -sgnE z := by
  unfold sgnE
  split <;> split <;> (try split) <;> (try split) <;> omega
theorem sgnE_le (z : Int) : -1 ≤ sgnE z ∧ sgnE z ≤ 1 := by
  unfold sgnE
  split
  · omega
  · split <;> omega
theorem flip_md (x : Nat) (hx : x < 18446744073709551616) : flipOf x % 9223372036854775808 = x % 9223372036854775808 ∧ (9223372036854775808 ≤ flipOf x ↔ ¬ 9223372036854775808 ≤ x) := by
  unfold flipOf
  split <;> omega
theorem sv_flip (x : Nat) (hx : x < 18446744073709551616) : sv (flipOf x) = -sv x := by
  obtain ⟨h1, h2⟩ := flip_md x hx
  unfold sv
  rw [h1]
  by_cases c : 9223372036854775808 ≤ x
  · rw [if_pos c, if_neg (fun d => h2.1 d c), Int.neg_neg]
  · rw [if_neg c, if_pos (h2.2 c)]
theorem exp_flip (x : Nat) (hx : x < 18446744073709551616) : (expOf (flipOf x) == 2047) = (expOf x == 2047) := by
  obtain ⟨h1, h2⟩ := flip_md x hx
  have hf := flip_lt hx
  rw [Bool.eq_iff_iff, beq_iff_eq, beq_iff_eq]
  unfold expOf canonOf
  rw [h1]
  by_cases c : 9218868437227405312 < x % 9223372036854775808
  · rw [if_pos c, if_pos c]
  · rw [if_neg c, if_neg c]
    omega
theorem neg_flip (x : Nat) (hx : x < 18446744073709551616) : Op.unary .neg (.float .f64 x) = pure (.float .f64 (flipOf x)) := by
  have h := xor_sign x hx
  have h2 := u64_xor_nat x 9223372036854775808 hx (by omega)
  have e : x ^^^ 9223372036854775808 = flipOf x := by
    have h3 := h2.symm.trans h
    omega
  rw [← e]
  rfl
end Go.Proofs.YtpjdmhidhllbkaaDoor

namespace Go.Proofs.YtpjdmhidhllbkaaDoor
open Go.RowKit Go.IntWalk

theorem numsL (V : World) (b : Nat) (zs : List Nat) (T : TypeId) (h : V.heap[b]? = some (.cells ((zs.map (fun z => Value.float .f64 z)).toArray) T)) : NumsAt V b 0 zs :=
  ⟨(Array.getElem?_eq_some_iff.1 h).1, fun i hi => by
    simp [World.cell?, h, hi, List.getD]⟩
theorem two_blkE (w : World) (A B : Obj) : ((w.alloc A).alloc B).heap[w.heap.size]? = some A ∧ ((w.alloc A).alloc B).heap[w.heap.size + 1]? = some B := by
  have h1 : (w.alloc A).heap.size = w.heap.size + 1 := by simp
  constructor
  · rw [((Below.refl (w.alloc A).heap.size (w.alloc A)).alloc (Nat.le_refl _) B).block w.heap.size (by omega)]
    exact new_blk w A _ rfl
  · exact new_blk (w.alloc A) B _ h1.symm
theorem finl_of {zs : List Nat} (h : ∀ z, z ∈ zs → z < 18446744073709551616 ∧ z % 9223372036854775808 < 9218868437227405312) : FinL zs := fun i hi => by
  have : zs.getD i 0 ∈ zs := by rw [List.getD_eq_getElem?_getD, List.getElem?_eq_getElem hi]; exact List.getElem_mem hi
  exact h _ this
theorem bitl_of {zs : List Nat} (h : ∀ z, z ∈ zs → z < 18446744073709551616) : BitL zs := fun i hi => by
  have : zs.getD i 0 ∈ zs := by rw [List.getD_eq_getElem?_getD, List.getElem?_eq_getElem hi]; exact List.getElem_mem hi
  exact h _ this
def finB (x : Nat) : Bool := !(expOf x == 2047)
theorem finB_is (x : Nat) (h : finB x = true) : x % 9223372036854775808 < 9218868437227405312 := by
  unfold finB at h
  have h1 : expOf x ≠ 2047 := by simpa using h
  unfold expOf canonOf at h1
  split at h1 <;> omega
theorem finB_flip (x : Nat) (hx : x < 18446744073709551616) : finB (flipOf x) = finB x := by unfold finB; rw [exp_flip x hx]
/-- The sign, and the error. -/
def detV (a b c d : Nat) : Int := sv a * sv d - sv b * sv c
def detF (a b c d : Nat) : Bool := finB a && finB b && finB c && finB d
def detS (a b c d : Nat) : Int := if detF a b c d then sgnE (detV a b c d) else 0
def detE (a b c d : Nat) : Int := if detF a b c d then 0 else 4
end Go.Proofs.YtpjdmhidhllbkaaDoor

namespace Go.Proofs.YtpjdmhidhllbkaaDoor
open Go.RowKit Go.IntWalk

def turnV (p q r s t u : Nat) : Int := sv p * sv s - sv p * sv u + sv r * sv u - sv r * sv q + sv t * sv q - sv t * sv s
def turnF (p q r s t u : Nat) : Bool := finB p && finB q && finB r && finB s && finB t && finB u
def turnS (p q r s t u : Nat) : Int := if turnF p q r s t u then sgnE (turnV p q r s t u) else 0
def turnE (p q r s t u : Nat) : Int := if turnF p q r s t u then 0 else 4
theorem turn_cycle (p q r s t u : Nat) : turnS r s t u p q = turnS p q r s t u ∧ turnE r s t u p q = turnE p q r s t u := by
  have h1 : turnF r s t u p q = turnF p q r s t u := by
    unfold turnF
    cases finB p <;> cases finB q <;> cases finB r <;> cases finB s <;> cases finB t <;> cases finB u <;> rfl
  have h2 : turnV r s t u p q = turnV p q r s t u := by unfold turnV; omega
  unfold turnS turnE
  rw [h1, h2]
  exact ⟨rfl, rfl⟩
theorem turn_swap (p q r s t u : Nat) : turnS r s p q t u = -turnS p q r s t u ∧ turnE r s p q t u = turnE p q r s t u := by
  have h1 : turnF r s p q t u = turnF p q r s t u := by
    unfold turnF
    cases finB p <;> cases finB q <;> cases finB r <;> cases finB s <;> cases finB t <;> cases finB u <;> rfl
  have h2 : turnV r s p q t u = -turnV p q r s t u := by unfold turnV; omega
  unfold turnS turnE
  rw [h1, h2, sgnE_neg]
  refine ⟨?_, rfl⟩
  split <;> simp
theorem det_swap (a b c d : Nat) : detS c d a b = -detS a b c d ∧ detE c d a b = detE a b c d ∧ detS b a d c = -detS a b c d ∧ detE b a d c = detE a b c d := by
  have h1 : detF c d a b = detF a b c d ∧ detF b a d c = detF a b c d := by
    unfold detF
    cases finB a <;> cases finB b <;> cases finB c <;> cases finB d <;> exact ⟨rfl, rfl⟩
  have h2 : detV c d a b = -detV a b c d := by unfold detV; rw [Int.mul_comm (sv c), Int.mul_comm (sv d)]; omega
  have h3 : detV b a d c = -detV a b c d := by unfold detV; omega
  unfold detS detE
  rw [h1.1, h1.2, h2, h3, sgnE_neg]
  refine ⟨?_, rfl, ?_, rfl⟩ <;> (split <;> simp)
theorem turnS_le (p q r s t u : Nat) : -1 ≤ turnS p q r s t u ∧ turnS p q r s t u ≤ 1 := by
  unfold turnS
  split
  · exact sgnE_le _
  · omega
theorem detS_le (a b c d : Nat) : -1 ≤ detS a b c d ∧ detS a b c d ≤ 1 := by
  unfold detS
  split
  · exact sgnE_le _
  · omega
end Go.Proofs.YtpjdmhidhllbkaaDoor
