
/- What eft's Det and Turn do. -/
import Derived.Test.YtijadahpddmhjaaGreatDoorP41
import Derived.Test.YtijadahpddmhjaaGreatDoorP36
import Derived.Test.YtijadahpddmhjaaGreatDoorP39
namespace Go.Proofs.YtijadahpddmhjaaGreatDoor
open Go.RowKit Go.IntWalk

theorem numsL (V : World) (b : Nat) (zs : List Nat) (T : TypeId) (h : V.heap[b]? = some (.cells ((zs.map (fun z => Value.float .f64 z)).toArray) T)) : NumsAt V b 0 zs :=
  ⟨(Array.getElem?_eq_some_iff.1 h).1, fun i hi => by
    simp [World.cell?, h, hi, List.getD]⟩
theorem two_blkE (w : World) (A B : Obj) : ((w.alloc A).alloc B).heap[w.heap.size]? = some A ∧ ((w.alloc A).alloc B).heap[w.heap.size + 1]? = some B := by
  have h1 : (w.alloc A).heap.size = w.heap.size + 1 := by simp
  constructor
  · rw [((Below.refl (w.alloc A).heap.size (w.alloc A)).alloc (Nat.le_refl _) B).block w.heap.size (by omega)]
    exact new_blk w A _ rfl
  · exact new_blk (w.alloc A) B _ h1.symm
theorem finl_of {zs : List Nat} (h : ∀ z, z ∈ zs → z < 18446744073709551616 ∧ z % 9223372036854775808 < 9218868437227405312) : FinL zs := fun i hi => by
  have : zs.getD i 0 ∈ zs := by rw [List.getD_eq_getElem?_getD, List.getElem?_eq_getElem hi]; exact List.getElem_mem hi
  exact h _ this
theorem bitl_of {zs : List Nat} (h : ∀ z, z ∈ zs → z < 18446744073709551616) : BitL zs := fun i hi => by
  have : zs.getD i 0 ∈ zs := by rw [List.getD_eq_getElem?_getD, List.getElem?_eq_getElem hi]; exact List.getElem_mem hi
  exact h _ this
def finB (x : Nat) : Bool := !(expOf x == 2047)
theorem finB_is (x : Nat) (h : finB x = true) : x % 9223372036854775808 < 9218868437227405312 := by
  unfold finB at h
  have h1 : expOf x ≠ 2047 := by simpa using h
  unfold expOf canonOf at h1
  split at h1 <;> omega
theorem finB_flip (x : Nat) (hx : x < 18446744073709551616) : finB (flipOf x) = finB x := by unfold finB; rw [exp_flip x hx]
/-- The sign, and the error. -/
def detV (a b c d : Nat) : Int := sv a * sv d - sv b * sv c
def detF (a b c d : Nat) : Bool := finB a && finB b && finB c && finB d
def detS (a b c d : Nat) : Int := if detF a b c d then sgnE (detV a b c d) else 0
def detE (a b c d : Nat) : Int := if detF a b c d then 0 else 4
set_option maxRecDepth 4000 in
set_option maxHeartbeats 1000000 in
theorem Det_any (a b c d : Nat) (w : World) (ha : a < 18446744073709551616) (hb : b < 18446744073709551616) (hc : c < 18446744073709551616) (hd : d < 18446744073709551616) (hT : Tab w) (hg : 2 < w.heap.size) (hT3 : Tab32 w) (hs : 1 < w.heap.size) :
    Calls Tryz.prog 42 #[.float .f64 a, .float .f64 b, .float .f64 c, .float .f64 d] w fun r w' => r = .returned (.tuple #[.int .i64 (detS a b c d), .int .i64 (detE a b c d)]) ∧ Below w.heap.size w w' := by
  have hn := neg_flip c hc
  have hfc := flip_lt hc
  have HT : Hid (∀ W, Below w.heap.size w W → Tab W ∧ 2 < W.heap.size ∧ Tab32 W ∧ 1 < W.heap.size) := fun W hW => ⟨hT.below hg hW, Nat.lt_of_lt_of_le hg hW.size, hT3.below hs hW, Nat.lt_of_lt_of_le hs hW.size⟩
  by_cases hf : detF a b c d = true
  · have e1 : detS a b c d = sgnE (detV a b c d) := by unfold detS; rw [if_pos hf]
    have e2 : detE a b c d = 0 := by unfold detE; rw [if_pos hf]
    rw [e1, e2]
    unfold detF at hf
    simp only [Bool.and_eq_true] at hf
    obtain ⟨⟨⟨fa, fb⟩, fc⟩, fd⟩ := hf
    have fc' : finB (flipOf c) = true := by rw [finB_flip c hc]; exact fc
    have hv : dotSv [a, b] [d, flipOf c] 2 = detV a b c d := by
      show 0 + sv a * sv d + sv b * sv (flipOf c) = _
      unfold detV
      rw [sv_flip c hc, Int.mul_neg]
      omega
    have HD : Hid (∀ T, Calls Tryz.prog 71 #[.slice (some ⟨w.heap.size, 0, none⟩) 2 2, .slice (some ⟨w.heap.size + 1, 0, none⟩) 2 2] ((w.alloc (.cells #[.float .f64 a, .float .f64 b] T)).alloc (.cells #[.float .f64 d, .float .f64 (flipOf c)] T)) fun r w' => DyOut (detV a b c d) (-2148) (w.heap.size + 2) r w' ∧ Below (w.heap.size + 2) ((w.alloc (.cells #[.float .f64 a, .float .f64 b] T)).alloc (.cells #[.float .f64 d, .float .f64 (flipOf c)] T)) w') := fun T => by
      obtain ⟨b1, b2⟩ := two_blkE w (.cells #[.float .f64 a, .float .f64 b] T) (.cells #[.float .f64 d, .float .f64 (flipOf c)] T)
      have hW : Below w.heap.size w ((w.alloc (.cells #[.float .f64 a, .float .f64 b] T)).alloc (.cells #[.float .f64 d, .float .f64 (flipOf c)] T)) := ((Below.refl _ _).alloc (Nat.le_refl _) _).alloc (by simp) _
      have := Dot_fin [a, b] [d, flipOf c] w.heap.size 0 2 (w.heap.size + 1) 0 2 _ rfl (numsL _ _ [a, b] T b1) (numsL _ _ [d, flipOf c] T b2) (finl_of (by simp [ha, hb, finB_is a fa, finB_is b fb])) (finl_of (by simp [hd, hfc, finB_is d fd, finB_is _ fc'])) (by simp) (HT.out _ hW).1 (HT.out _ hW).2.1 (HT.out _ hW).2.2.1 (HT.out _ hW).2.2.2
      rw [show [a, b].length = 2 from rfl, show [d, flipOf c].length = 2 from rfl, hv] at this
      simpa using this
    obtain ⟨Z, hZ⟩ : ∃ Z, Hid (detV a b c d = Z) := ⟨_, rfl⟩
    rw [hZ.out] at HD ⊢
    obtain ⟨m, hm⟩ : ∃ m, Hid (flipOf c = m) := ⟨_, rfl⟩
    rw [hm.out] at HD hn
    clear ha hb hc hd hT hg hT3 hs fa fb fc fd fc' hv hfc e1 e2 HT
    go_enter Tryz.func42, Tryz.ntmps42
    go_wp2_with fail
    refine (HD.out _).mono ?_
    rintro r w1 ⟨ho, hb1⟩
    obtain ⟨n1, a1, l1, c1, e1, rfl, hr⟩ := ho.ret
    have HB1 : Hid (Below w.heap.size w w1) := (((Below.refl _ _).alloc (Nat.le_refl _) _).alloc (by simp) _).trans (hb1.mono (by omega))
    have HA1 := hid hr.at
    clear ho hb1 hr
    go_wp2_with fail
    refine (signOf_dy _ _ _ _ _ _ _ _ HA1.out).mono ?_
    rintro r w2 ⟨rfl, hb2⟩
    have HB2 : Hid (Below w.heap.size w w2) := HB1.out.trans (hb2.mono HB1.out.size)
    clear hb2
    go_wp2
    go_ret2
    exact ⟨rfl, HB2.out⟩
  · have hf : detF a b c d = false := by simpa using hf
    have e1 : detS a b c d = 0 := by unfold detS; rw [hf]; rfl
    have e2 : detE a b c d = 4 := by unfold detE; rw [hf]; rfl
    rw [e1, e2]
    have HD : Hid (∀ T, Calls Tryz.prog 71 #[.slice (some ⟨w.heap.size, 0, none⟩) 2 2, .slice (some ⟨w.heap.size + 1, 0, none⟩) 2 2] ((w.alloc (.cells #[.float .f64 a, .float .f64 b] T)).alloc (.cells #[.float .f64 d, .float .f64 (flipOf c)] T)) fun r w' => (∃ n a l c e, r = .returned (.tuple #[.agg #[.bool n, .slice a l c, .int .i64 e], .int .i64 4])) ∧ Below (w.heap.size + 2) ((w.alloc (.cells #[.float .f64 a, .float .f64 b] T)).alloc (.cells #[.float .f64 d, .float .f64 (flipOf c)] T)) w') := fun T => by
      obtain ⟨b1, b2⟩ := two_blkE w (.cells #[.float .f64 a, .float .f64 b] T) (.cells #[.float .f64 d, .float .f64 (flipOf c)] T)
      refine (Dot_bad [a, b] [d, flipOf c] w.heap.size 0 2 (w.heap.size + 1) 0 2 _ rfl (numsL _ _ [a, b] T b1) (numsL _ _ [d, flipOf c] T b2) (bitl_of (by simp [ha, hb])) (bitl_of (by simp [hd, hfc])) ?_ (by simp)).mono ?_
      · have h2 := hf
        unfold detF finB at h2
        simp only [allFin, List.all_cons, List.all_nil, Bool.and_true, exp_flip c hc]
        rw [← h2]
        cases (!(expOf a == 2047)) <;> cases (!(expOf b == 2047)) <;> cases (!(expOf c == 2047)) <;> cases (!(expOf d == 2047)) <;> rfl
      · rintro r w' ⟨rfl, h⟩
        exact ⟨⟨_, _, _, _, _, rfl⟩, by simpa using h⟩
    obtain ⟨m, hm⟩ : ∃ m, Hid (flipOf c = m) := ⟨_, rfl⟩
    rw [hm.out] at HD hn
    clear ha hb hc hd hT hg hT3 hs hf hfc e1 e2 HT
    go_enter Tryz.func42, Tryz.ntmps42
    go_wp2_with fail
    refine (HD.out _).mono ?_
    rintro r w1 ⟨⟨n1, a1, l1, c1, e1, rfl⟩, hb1⟩
    have HB1 : Hid (Below w.heap.size w w1) := (((Below.refl _ _).alloc (Nat.le_refl _) _).alloc (by simp) _).trans (hb1.mono (by omega))
    clear hb1
    go_wp2_with fail
    refine (signOf_err _ _ _ _ _ _).mono ?_
    rintro r w2 ⟨rfl, hb2⟩
    have HB2 : Hid (Below w.heap.size w w2) := HB1.out.trans (hb2.mono HB1.out.size)
    clear hb2
    go_wp2
    go_ret2
    exact ⟨rfl, HB2.out⟩
end Go.Proofs.YtijadahpddmhjaaGreatDoor

namespace Go.Proofs.YtijadahpddmhjaaGreatDoor
open Go.RowKit Go.IntWalk

def turnV (p q r s t u : Nat) : Int := sv p * sv s - sv p * sv u + sv r * sv u - sv r * sv q + sv t * sv q - sv t * sv s
def turnF (p q r s t u : Nat) : Bool := finB p && finB q && finB r && finB s && finB t && finB u
def turnS (p q r s t u : Nat) : Int := if turnF p q r s t u then sgnE (turnV p q r s t u) else 0
def turnE (p q r s t u : Nat) : Int := if turnF p q r s t u then 0 else 4
theorem turn_cycle (p q r s t u : Nat) : turnS r s t u p q = turnS p q r s t u ∧ turnE r s t u p q = turnE p q r s t u := by
  have h1 : turnF r s t u p q = turnF p q r s t u := by
    unfold turnF
    cases finB p <;> cases finB q <;> cases finB r <;> cases finB s <;> cases finB t <;> cases finB u <;> rfl
  have h2 : turnV r s t u p q = turnV p q r s t u := by unfold turnV; omega
  unfold turnS turnE
  rw [h1, h2]
  exact ⟨rfl, rfl⟩
theorem turn_swap (p q r s t u : Nat) : turnS r s p q t u = -turnS p q r s t u ∧ turnE r s p q t u = turnE p q r s t u := by
  have h1 : turnF r s p q t u = turnF p q r s t u := by
    unfold turnF
    cases finB p <;> cases finB q <;> cases finB r <;> cases finB s <;> cases finB t <;> cases finB u <;> rfl
  have h2 : turnV r s p q t u = -turnV p q r s t u := by unfold turnV; omega
  unfold turnS turnE
  rw [h1, h2, sgnE_neg]
  refine ⟨?_, rfl⟩
  split <;> simp
theorem det_swap (a b c d : Nat) : detS c d a b = -detS a b c d ∧ detE c d a b = detE a b c d ∧ detS b a d c = -detS a b c d ∧ detE b a d c = detE a b c d := by
  have h1 : detF c d a b = detF a b c d ∧ detF b a d c = detF a b c d := by
    unfold detF
    cases finB a <;> cases finB b <;> cases finB c <;> cases finB d <;> exact ⟨rfl, rfl⟩
  have h2 : detV c d a b = -detV a b c d := by unfold detV; rw [Int.mul_comm (sv c), Int.mul_comm (sv d)]; omega
  have h3 : detV b a d c = -detV a b c d := by unfold detV; omega
  unfold detS detE
  rw [h1.1, h1.2, h2, h3, sgnE_neg]
  refine ⟨?_, rfl, ?_, rfl⟩ <;> (split <;> simp)
theorem turnS_le (p q r s t u : Nat) : -1 ≤ turnS p q r s t u ∧ turnS p q r s t u ≤ 1 := by
  unfold turnS
  split
  · exact sgnE_le _
  · omega
theorem detS_le (a b c d : Nat) : -1 ≤ detS a b c d ∧ detS a b c d ≤ 1 := by
  unfold detS
  split
  · exact sgnE_le _
  · omega
end Go.Proofs.YtijadahpddmhjaaGreatDoor

namespace Go.Proofs.YtijadahpddmhjaaGreatDoor
open Go.RowKit Go.IntWalk

theorem NumAt.ne_x {W : World} {p b bd : Nat} {v e : Int} {q : Option Addr} (h : NumAt W p v bd) (hb : W.heap[b]? = some (XBox q e)) : p ≠ b := by
  intro c
  subst c
  obtain ⟨neg, L, _, _, a, cap, ho, _⟩ := h
  rw [ho] at hb
  unfold XBox at hb
  simp at hb
theorem ExV.stored {W : World} {p b bd : Nat} {e B z e0 : Int} {q : Option Addr} (h : ExV W p e B z bd) (hb : W.heap[b]? = some (XBox q e0)) (x y : Value) : ExV ((W.setCell ⟨b, 0, none⟩ x).setCell ⟨b, 1, none⟩ y) p e B z bd := by
  obtain ⟨v, k, f1, f2, f3⟩ := h
  exact ⟨v, k, f1.stored (f1.ne_x hb) hb x y, f2, f3⟩
theorem rb_of {w W : World} (h : Below (w.alloc (XBox none 0)).heap.size (w.alloc (XBox none 0)) W) : W.heap[w.heap.size]? = some (XBox none 0) := by
  rw [h.block _ (by simp)]
  exact new_blk _ _ _ rfl
end Go.Proofs.YtijadahpddmhjaaGreatDoor
