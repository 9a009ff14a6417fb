
/- What dyad's Sum and Dot answer of what is not finite. -/
import Derived.Test.YtijadahpddmhjaaGreatDoorP42
import Derived.Test.YtijadahpddmhjaaGreatDoorP2
import Derived.Test.YtijadahpddmhjaaGreatDoorP36
namespace Go.Proofs.YtijadahpddmhjaaGreatDoor
open Go.RowKit Go.IntWalk

def BitL (zs : List Nat) : Prop := ∀ i, i < zs.length → zs.getD i 0 < 18446744073709551616
set_option maxHeartbeats 1000000 in
theorem Dot_bad (xs ys : List Nat) (b off cap b2 off2 cap2 : Nat) (w : World) (hlen : ys.length = xs.length) (hm : NumsAt w b off xs) (hm2 : NumsAt w b2 off2 ys) (hz : BitL xs) (hz2 : BitL ys) (hf : (allFin xs && allFin ys) = false) (hn : xs.length ≤ 140737488355328) :
    Calls Tryz.prog 71 #[.slice (some ⟨b, off, none⟩) xs.length cap, .slice (some ⟨b2, off2, none⟩) ys.length cap2] w fun r w' => r = .returned (.tuple #[.agg #[.bool false, .slice none 0 0, .int .i64 0], .int .i64 4]) ∧ Below w.heap.size w w' := by
  have HFI : Hid (∀ W, Below w.heap.size w W → Calls Tryz.prog 33 #[.slice (some ⟨b, off, none⟩) xs.length cap] W fun r w' => r = .returned (.bool (allFin xs)) ∧ Below W.heap.size W w') := fun W hW => by
    have hmW := hm.below hW
    exact Finite_any xs b off cap W hmW.1 hmW.2 hz hn
  have HFI2 : Hid (∀ W, Below w.heap.size w W → Calls Tryz.prog 33 #[.slice (some ⟨b2, off2, none⟩) ys.length cap2] W fun r w' => r = .returned (.bool (allFin ys)) ∧ Below W.heap.size W w') := fun W hW => by
    have hmW := hm2.below hW
    exact Finite_any ys b2 off2 cap2 W hmW.1 hmW.2 hz2 (by omega)
  obtain ⟨n, hnl⟩ : ∃ n, Hid (xs.length = n) := ⟨_, rfl⟩
  have hnl2 : Hid (ys.length = n) := hlen.trans hnl.out
  rw [hnl.out] at HFI ⊢
  rw [hnl2.out] at HFI2 ⊢
  obtain ⟨f1, hf1⟩ : ∃ f, Hid (allFin xs = f) := ⟨_, rfl⟩
  obtain ⟨f2, hf2⟩ : ∃ f, Hid (allFin ys = f) := ⟨_, rfl⟩
  rw [hf1.out] at HFI hf
  rw [hf2.out] at HFI2 hf
  clear hm hm2 hz hz2 hn hlen hf1 hf2
  cases f1
  · clear hf HFI2
    go_enter Tryz.func71, Tryz.ntmps71
    go_wp2_with fail
    refine (HFI.out _ ((Below.refl _ _).alloc (Nat.le_refl _) _)).mono ?_
    rintro r w1 ⟨rfl, hb1⟩
    have hsz : w.heap.size < w1.heap.size := by have := hb1.size; simp at this; omega
    obtain ⟨hc, hf⟩ := bcell hb1
    have HB1 : Hid (Below w.heap.size w w1) := ((Below.refl _ _).alloc (Nat.le_refl _) _).trans (hb1.mono (by simp))
    clear hb1
    go_wp2
    exact bodyPost_ret (v := .tuple #[.agg #[.bool false, .slice none 0 0, .int .i64 0], .int .i64 4]) (by simp [results, Tryz.results71, go_sem, hc]) rfl ⟨rfl, Below.setCell (Below.setCell (Below.setCell HB1.out (Nat.le_refl _) _) (Nat.le_refl _) _) (Nat.le_refl _) _⟩
  · cases f2
    · clear hf
      go_enter Tryz.func71, Tryz.ntmps71
      go_wp2_with fail
      refine (HFI.out _ ((Below.refl _ _).alloc (Nat.le_refl _) _)).mono ?_
      rintro r w0 ⟨rfl, hb0⟩
      have HBW0 : Hid (Below w.heap.size w w0) := ((Below.refl _ _).alloc (Nat.le_refl _) _).trans (hb0.mono (by simp))
      have hsz0 : w.heap.size < w0.heap.size := by have := hb0.size; simp at this; omega
      obtain ⟨hc0, hf0⟩ := bcell hb0
      clear hb0
      go_wp2_with fail
      refine (HFI2.out _ HBW0.out).mono ?_
      rintro r w1 ⟨rfl, hb1⟩
      have hsz : w.heap.size < w1.heap.size := by have := hb1.size; omega
      obtain ⟨hc, hf⟩ := bcell hb1
      have HB1 : Hid (Below w.heap.size w w1) := HBW0.out.trans (hb1.mono HBW0.out.size)
      clear hb1
      go_wp2
      exact bodyPost_ret (v := .tuple #[.agg #[.bool false, .slice none 0 0, .int .i64 0], .int .i64 4]) (by simp [results, Tryz.results71, go_sem, hc, hc0, hsz0]) rfl ⟨rfl, Below.setCell (Below.setCell (Below.setCell HB1.out (Nat.le_refl _) _) (Nat.le_refl _) _) (Nat.le_refl _) _⟩
    · exact absurd hf (by decide)
end Go.Proofs.YtijadahpddmhjaaGreatDoor

namespace Go.Proofs.YtijadahpddmhjaaGreatDoor
open Go.RowKit Go.IntWalk

def sgnE (z : Int) : Int := if z = 0 then 0 else if z < 0 then -1 else 1
theorem sgnE_neg (z : Int) : sgnE (-z) = -sgnE z := by
  unfold sgnE
  split <;> split <;> (try split) <;> (try split) <;> omega
theorem sgnE_le (z : Int) : -1 ≤ sgnE z ∧ sgnE z ≤ 1 := by
  unfold sgnE
  split
  · omega
  · split <;> omega
theorem flip_md (x : Nat) (hx : x < 18446744073709551616) : flipOf x % 9223372036854775808 = x % 9223372036854775808 ∧ (9223372036854775808 ≤ flipOf x ↔ ¬ 9223372036854775808 ≤ x) := by
  unfold flipOf
  split <;> omega
theorem sv_flip (x : Nat) (hx : x < 18446744073709551616) : sv (flipOf x) = -sv x := by
  obtain ⟨h1, h2⟩ := flip_md x hx
  unfold sv
  rw [h1]
  by_cases c : 9223372036854775808 ≤ x
  · rw [if_pos c, if_neg (fun d => h2.1 d c), Int.neg_neg]
  · rw [if_neg c, if_pos (h2.2 c)]
theorem exp_flip (x : Nat) (hx : x < 18446744073709551616) : (expOf (flipOf x) == 2047) = (expOf x == 2047) := by
  obtain ⟨h1, h2⟩ := flip_md x hx
  have hf := flip_lt hx
  rw [Bool.eq_iff_iff, beq_iff_eq, beq_iff_eq]
  unfold expOf canonOf
  rw [h1]
  by_cases c : 9218868437227405312 < x % 9223372036854775808
  · rw [if_pos c, if_pos c]
  · rw [if_neg c, if_neg c]
    omega
theorem neg_flip (x : Nat) (hx : x < 18446744073709551616) : Op.unary .neg (.float .f64 x) = pure (.float .f64 (flipOf x)) := by
  have h := xor_sign x hx
  have h2 := u64_xor_nat x 9223372036854775808 hx (by omega)
  have e : x ^^^ 9223372036854775808 = flipOf x := by
    have h3 := h2.symm.trans h
    omega
  rw [← e]
  rfl
set_option maxHeartbeats 400000 in
theorem signOf_dy (neg : Bool) (a : Option Addr) (n cap : Nat) (e' z e : Int) (w : World) (h : DyAt w neg a n cap e' z e) :
    Calls Tryz.prog 70 #[.agg #[.bool neg, .slice a n cap, .int .i64 e'], .int .i64 0] w fun r w' => r = .returned (.tuple #[.int .i64 (sgnE z), .int .i64 0]) ∧ Below w.heap.size w w' := by
  obtain ⟨L, rfl, hcap, hm, hv, hmay⟩ := h
  have key : (L.length = 0 ∧ sgnE z = 0) ∨ ((1 : Int) ≤ (L.length : Int) ∧ sgnE z = if neg then -1 else 1) := by
    rcases hv.val with ⟨z0, l0, m0, x0⟩ | ⟨l0, o0, z0, k, hk, hx⟩
    · left; rw [l0, z0]; exact ⟨rfl, rfl⟩
    · right
      refine ⟨?_, ?_⟩
      · have : L.length ≠ 0 := fun c => l0 (List.length_eq_zero_iff.1 c)
        omega
      · have hp : (0 : Int) < 2 ^ k := Int.pow_pos (by decide)
        have hn : (0 : Int) < (natL L : Int) := by omega
        have hq : (0 : Int) < (natL L : Int) * 2 ^ k := Int.mul_pos hn hp
        unfold intL at hk
        unfold sgnE
        rw [if_neg z0]
        cases neg
        · rw [if_neg (by decide)] at hk
          rw [if_neg (show ¬ z < 0 by omega)]; rfl
        · rw [if_pos rfl, Int.neg_mul] at hk
          rw [if_pos (show z < 0 by omega)]; rfl
  obtain ⟨l, hl⟩ : ∃ l, Hid (L.length = l) := ⟨_, rfl⟩
  obtain ⟨s, hs⟩ : ∃ s, Hid (sgnE z = s) := ⟨_, rfl⟩
  rw [hl.out, hs.out] at key
  rw [hl.out, hs.out]
  clear hcap hm hv hmay
  rcases key with ⟨rfl, rfl⟩ | ⟨h1, h2⟩
  · go_enter Tryz.func70, Tryz.ntmps70
    go_wp2
    go_ret2
    exact ⟨rfl, (Below.refl _ _).alloc (Nat.le_refl _) _⟩
  · subst h2
    cases neg
    · go_enter Tryz.func70, Tryz.ntmps70
      go_wp2
      go_ret2
      exact ⟨rfl, (Below.refl _ _).alloc (Nat.le_refl _) _⟩
    · go_enter Tryz.func70, Tryz.ntmps70
      go_wp2
      go_ret2
      exact ⟨rfl, (Below.refl _ _).alloc (Nat.le_refl _) _⟩
set_option maxHeartbeats 400000 in
theorem signOf_err (neg : Bool) (a : Option Addr) (n cap : Nat) (e' : Int) (w : World) :
    Calls Tryz.prog 70 #[.agg #[.bool neg, .slice a n cap, .int .i64 e'], .int .i64 4] w fun r w' => r = .returned (.tuple #[.int .i64 0, .int .i64 4]) ∧ Below w.heap.size w w' := by
  go_enter Tryz.func70, Tryz.ntmps70
  go_wp2
  go_ret2
  exact ⟨rfl, (Below.refl _ _).alloc (Nat.le_refl _) _⟩
end Go.Proofs.YtijadahpddmhjaaGreatDoor

namespace Go.Proofs.YtijadahpddmhjaaGreatDoor
open Go.RowKit Go.IntWalk

theorem numsL (V : World) (b : Nat) (zs : List Nat) (T : TypeId) (h : V.heap[b]? = some (.cells ((zs.map (fun z => Value.float .f64 z)).toArray) T)) : NumsAt V b 0 zs :=
  ⟨(Array.getElem?_eq_some_iff.1 h).1, fun i hi => by
    simp [World.cell?, h, hi, List.getD]⟩
theorem two_blkE (w : World) (A B : Obj) : ((w.alloc A).alloc B).heap[w.heap.size]? = some A ∧ ((w.alloc A).alloc B).heap[w.heap.size + 1]? = some B := by
  have h1 : (w.alloc A).heap.size = w.heap.size + 1 := by simp
  constructor
  · rw [((Below.refl (w.alloc A).heap.size (w.alloc A)).alloc (Nat.le_refl _) B).block w.heap.size (by omega)]
    exact new_blk w A _ rfl
  · exact new_blk (w.alloc A) B _ h1.symm
theorem finl_of {zs : List Nat} (h : ∀ z, z ∈ zs → z < 18446744073709551616 ∧ z % 9223372036854775808 < 9218868437227405312) : FinL zs := fun i hi => by
  have : zs.getD i 0 ∈ zs := by rw [List.getD_eq_getElem?_getD, List.getElem?_eq_getElem hi]; exact List.getElem_mem hi
  exact h _ this
theorem bitl_of {zs : List Nat} (h : ∀ z, z ∈ zs → z < 18446744073709551616) : BitL zs := fun i hi => by
  have : zs.getD i 0 ∈ zs := by rw [List.getD_eq_getElem?_getD, List.getElem?_eq_getElem hi]; exact List.getElem_mem hi
  exact h _ this
def finB (x : Nat) : Bool := !(expOf x == 2047)
theorem finB_is (x : Nat) (h : finB x = true) : x % 9223372036854775808 < 9218868437227405312 := by
  unfold finB at h
  have h1 : expOf x ≠ 2047 := by simpa using h
  unfold expOf canonOf at h1
  split at h1 <;> omega
theorem finB_flip (x : Nat) (hx : x < 18446744073709551616) : finB (flipOf x) = finB x := by unfold finB; rw [exp_flip x hx]
/-- The sign, and the error. -/
def detV (a b c d : Nat) : Int := sv a * sv d - sv b * sv c
def detF (a b c d : Nat) : Bool := finB a && finB b && finB c && finB d
def detS (a b c d : Nat) : Int := if detF a b c d then sgnE (detV a b c d) else 0
def detE (a b c d : Nat) : Int := if detF a b c d then 0 else 4
set_option maxRecDepth 4000 in
set_option maxHeartbeats 1000000 in
theorem Det_any (a b c d : Nat) (w : World) (ha : a < 18446744073709551616) (hb : b < 18446744073709551616) (hc : c < 18446744073709551616) (hd : d < 18446744073709551616) (hT : Tab w) (hg : 2 < w.heap.size) (hT3 : Tab32 w) (hs : 1 < w.heap.size) :
    Calls Tryz.prog 42 #[.float .f64 a, .float .f64 b, .float .f64 c, .float .f64 d] w fun r w' => r = .returned (.tuple #[.int .i64 (detS a b c d), .int .i64 (detE a b c d)]) ∧ Below w.heap.size w w' := by
  have hn := neg_flip c hc
  have hfc := flip_lt hc
  have HT : Hid (∀ W, Below w.heap.size w W → Tab W ∧ 2 < W.heap.size ∧ Tab32 W ∧ 1 < W.heap.size) := fun W hW => ⟨hT.below hg hW, Nat.lt_of_lt_of_le hg hW.size, hT3.below hs hW, Nat.lt_of_lt_of_le hs hW.size⟩
  by_cases hf : detF a b c d = true
  · have e1 : detS a b c d = sgnE (detV a b c d) := by unfold detS; rw [if_pos hf]
    have e2 : detE a b c d = 0 := by unfold detE; rw [if_pos hf]
    rw [e1, e2]
    unfold detF at hf
    simp only [Bool.and_eq_true] at hf
    obtain ⟨⟨⟨fa, fb⟩, fc⟩, fd⟩ := hf
    have fc' : finB (flipOf c) = true := by rw [finB_flip c hc]; exact fc
    have hv : dotSv [a, b] [d, flipOf c] 2 = detV a b c d := by
      show 0 + sv a * sv d + sv b * sv (flipOf c) = _
      unfold detV
      rw [sv_flip c hc, Int.mul_neg]
      omega
    have HD : Hid (∀ T, Calls Tryz.prog 71 #[.slice (some ⟨w.heap.size, 0, none⟩) 2 2, .slice (some ⟨w.heap.size + 1, 0, none⟩) 2 2] ((w.alloc (.cells #[.float .f64 a, .float .f64 b] T)).alloc (.cells #[.float .f64 d, .float .f64 (flipOf c)] T)) fun r w' => DyOut (detV a b c d) (-2148) (w.heap.size + 2) r w' ∧ Below (w.heap.size + 2) ((w.alloc (.cells #[.float .f64 a, .float .f64 b] T)).alloc (.cells #[.float .f64 d, .float .f64 (flipOf c)] T)) w') := fun T => by
      obtain ⟨b1, b2⟩ := two_blkE w (.cells #[.float .f64 a, .float .f64 b] T) (.cells #[.float .f64 d, .float .f64 (flipOf c)] T)
      have hW : Below w.heap.size w ((w.alloc (.cells #[.float .f64 a, .float .f64 b] T)).alloc (.cells #[.float .f64 d, .float .f64 (flipOf c)] T)) := ((Below.refl _ _).alloc (Nat.le_refl _) _).alloc (by simp) _
      have := Dot_fin [a, b] [d, flipOf c] w.heap.size 0 2 (w.heap.size + 1) 0 2 _ rfl (numsL _ _ [a, b] T b1) (numsL _ _ [d, flipOf c] T b2) (finl_of (by simp [ha, hb, finB_is a fa, finB_is b fb])) (finl_of (by simp [hd, hfc, finB_is d fd, finB_is _ fc'])) (by simp) (HT.out _ hW).1 (HT.out _ hW).2.1 (HT.out _ hW).2.2.1 (HT.out _ hW).2.2.2
      rw [show [a, b].length = 2 from rfl, show [d, flipOf c].length = 2 from rfl, hv] at this
      simpa using this
    obtain ⟨Z, hZ⟩ : ∃ Z, Hid (detV a b c d = Z) := ⟨_, rfl⟩
    rw [hZ.out] at HD ⊢
    obtain ⟨m, hm⟩ : ∃ m, Hid (flipOf c = m) := ⟨_, rfl⟩
    rw [hm.out] at HD hn
    clear ha hb hc hd hT hg hT3 hs fa fb fc fd fc' hv hfc e1 e2 HT
    go_enter Tryz.func42, Tryz.ntmps42
    go_wp2_with fail
    refine (HD.out _).mono ?_
    rintro r w1 ⟨ho, hb1⟩
    obtain ⟨n1, a1, l1, c1, e1, rfl, hr⟩ := ho.ret
    have HB1 : Hid (Below w.heap.size w w1) := (((Below.refl _ _).alloc (Nat.le_refl _) _).alloc (by simp) _).trans (hb1.mono (by omega))
    have HA1 := hid hr.at
    clear ho hb1 hr
    go_wp2_with fail
    refine (signOf_dy _ _ _ _ _ _ _ _ HA1.out).mono ?_
    rintro r w2 ⟨rfl, hb2⟩
    have HB2 : Hid (Below w.heap.size w w2) := HB1.out.trans (hb2.mono HB1.out.size)
    clear hb2
    go_wp2
    go_ret2
    exact ⟨rfl, HB2.out⟩
  · have hf : detF a b c d = false := by simpa using hf
    have e1 : detS a b c d = 0 := by unfold detS; rw [hf]; rfl
    have e2 : detE a b c d = 4 := by unfold detE; rw [hf]; rfl
    rw [e1, e2]
    have HD : Hid (∀ T, Calls Tryz.prog 71 #[.slice (some ⟨w.heap.size, 0, none⟩) 2 2, .slice (some ⟨w.heap.size + 1, 0, none⟩) 2 2] ((w.alloc (.cells #[.float .f64 a, .float .f64 b] T)).alloc (.cells #[.float .f64 d, .float .f64 (flipOf c)] T)) fun r w' => (∃ n a l c e, r = .returned (.tuple #[.agg #[.bool n, .slice a l c, .int .i64 e], .int .i64 4])) ∧ Below (w.heap.size + 2) ((w.alloc (.cells #[.float .f64 a, .float .f64 b] T)).alloc (.cells #[.float .f64 d, .float .f64 (flipOf c)] T)) w') := fun T => by
      obtain ⟨b1, b2⟩ := two_blkE w (.cells #[.float .f64 a, .float .f64 b] T) (.cells #[.float .f64 d, .float .f64 (flipOf c)] T)
      refine (Dot_bad [a, b] [d, flipOf c] w.heap.size 0 2 (w.heap.size + 1) 0 2 _ rfl (numsL _ _ [a, b] T b1) (numsL _ _ [d, flipOf c] T b2) (bitl_of (by simp [ha, hb])) (bitl_of (by simp [hd, hfc])) ?_ (by simp)).mono ?_
      · have h2 := hf
        unfold detF finB at h2
        simp only [allFin, List.all_cons, List.all_nil, Bool.and_true, exp_flip c hc]
        rw [← h2]
        cases (!(expOf a == 2047)) <;> cases (!(expOf b == 2047)) <;> cases (!(expOf c == 2047)) <;> cases (!(expOf d == 2047)) <;> rfl
      · rintro r w' ⟨rfl, h⟩
        exact ⟨⟨_, _, _, _, _, rfl⟩, by simpa using h⟩
    obtain ⟨m, hm⟩ : ∃ m, Hid (flipOf c = m) := ⟨_, rfl⟩
    rw [hm.out] at HD hn
    clear ha hb hc hd hT hg hT3 hs hf hfc e1 e2 HT
    go_enter Tryz.func42, Tryz.ntmps42
    go_wp2_with fail
    refine (HD.out _).mono ?_
    rintro r w1 ⟨⟨n1, a1, l1, c1, e1, rfl⟩, hb1⟩
    have HB1 : Hid (Below w.heap.size w w1) := (((Below.refl _ _).alloc (Nat.le_refl _) _).alloc (by simp) _).trans (hb1.mono (by omega))
    clear hb1
    go_wp2_with fail
    refine (signOf_err _ _ _ _ _ _).mono ?_
    rintro r w2 ⟨rfl, hb2⟩
    have HB2 : Hid (Below w.heap.size w w2) := HB1.out.trans (hb2.mono HB1.out.size)
    clear hb2
    go_wp2
    go_ret2
    exact ⟨rfl, HB2.out⟩
end Go.Proofs.YtijadahpddmhjaaGreatDoor

namespace Go.Proofs.YtijadahpddmhjaaGreatDoor
open Go.RowKit Go.IntWalk

def turnV (p q r s t u : Nat) : Int := sv p * sv s - sv p * sv u + sv r * sv u - sv r * sv q + sv t * sv q - sv t * sv s
def turnF (p q r s t u : Nat) : Bool := finB p && finB q && finB r && finB s && finB t && finB u
def turnS (p q r s t u : Nat) : Int := if turnF p q r s t u then sgnE (turnV p q r s t u) else 0
def turnE (p q r s t u : Nat) : Int := if turnF p q r s t u then 0 else 4
theorem turn_cycle (p q r s t u : Nat) : turnS r s t u p q = turnS p q r s t u ∧ turnE r s t u p q = turnE p q r s t u := by
  have h1 : turnF r s t u p q = turnF p q r s t u := by
    unfold turnF
    cases finB p <;> cases finB q <;> cases finB r <;> cases finB s <;> cases finB t <;> cases finB u <;> rfl
  have h2 : turnV r s t u p q = turnV p q r s t u := by unfold turnV; omega
  unfold turnS turnE
  rw [h1, h2]
  exact ⟨rfl, rfl⟩
theorem turn_swap (p q r s t u : Nat) : turnS r s p q t u = -turnS p q r s t u ∧ turnE r s p q t u = turnE p q r s t u := by
  have h1 : turnF r s p q t u = turnF p q r s t u := by
    unfold turnF
    cases finB p <;> cases finB q <;> cases finB r <;> cases finB s <;> cases finB t <;> cases finB u <;> rfl
  have h2 : turnV r s p q t u = -turnV p q r s t u := by unfold turnV; omega
  unfold turnS turnE
  rw [h1, h2, sgnE_neg]
  refine ⟨?_, rfl⟩
  split <;> simp
theorem det_swap (a b c d : Nat) : detS c d a b = -detS a b c d ∧ detE c d a b = detE a b c d ∧ detS b a d c = -detS a b c d ∧ detE b a d c = detE a b c d := by
  have h1 : detF c d a b = detF a b c d ∧ detF b a d c = detF a b c d := by
    unfold detF
    cases finB a <;> cases finB b <;> cases finB c <;> cases finB d <;> exact ⟨rfl, rfl⟩
  have h2 : detV c d a b = -detV a b c d := by unfold detV; rw [Int.mul_comm (sv c), Int.mul_comm (sv d)]; omega
  have h3 : detV b a d c = -detV a b c d := by unfold detV; omega
  unfold detS detE
  rw [h1.1, h1.2, h2, h3, sgnE_neg]
  refine ⟨?_, rfl, ?_, rfl⟩ <;> (split <;> simp)
theorem turnS_le (p q r s t u : Nat) : -1 ≤ turnS p q r s t u ∧ turnS p q r s t u ≤ 1 := by
  unfold turnS
  split
  · exact sgnE_le _
  · omega
theorem detS_le (a b c d : Nat) : -1 ≤ detS a b c d ∧ detS a b c d ≤ 1 := by
  unfold detS
  split
  · exact sgnE_le _
  · omega
end Go.Proofs.YtijadahpddmhjaaGreatDoor

namespace Go.Proofs.YtijadahpddmhjaaGreatDoor
open Go.RowKit Go.IntWalk

theorem can_1 : canonOf 4877398396442247168 = 4877398396442247168 ∧ canonOf 4607182418800017408 = 4607182418800017408 := by decide +kernel
theorem two_60 (w : World) : Calls Tryz.prog 6 #[.float .f64 4877398396442247168, .float .f64 4607182418800017408] w fun r w' => r = .returned (.tuple #[.float .f64 4877398396442247168, .float .f64 4607182418800017408]) ∧ Below w.heap.size w w' := by
  have := Two_at 4877398396442247168 4607182418800017408 4877398396442247168 0 4877398396442247168 0 4607182418800017408 4607182418800017408 w (by decide +kernel) (by decide +kernel) (by decide +kernel) (by decide +kernel) (by decide +kernel) (by decide +kernel) (by decide) (by decide)
  rw [can_1.1, can_1.2] at this
  exact this
theorem Owns.slice {w : World} {base : Nat} {v : Value} {xs : List Nat} (h : Owns w base v xs) (h0 : xs ≠ []) : ∃ g cap, v = .slice (some ⟨g, 0, none⟩) xs.length cap ∧ ∀ i, i < xs.length → w.cell? ⟨g, i, none⟩ = some (.float .f64 (xs.getD i 0)) := by
  have hc := fun g hg => World.ownsRow.cells h (g := g) hg
  rcases h.2 with ⟨_, hn⟩ | ⟨g, cap, cur, rfl, _⟩
  · exact absurd (List.length_eq_zero_iff.1 hn) h0
  · refine ⟨g, cap, rfl, fun i hi => ?_⟩
    have := hc g rfl i (.float .f64 (xs.getD i 0)) (by simp [hi, List.getD])
    have hadd : (⟨g, 0, none⟩ : Addr).add i = ⟨g, i, none⟩ := by unfold Addr.add; split <;> simp_all
    rwa [hadd] at this
theorem Owns.below {w w' : World} {base : Nat} {v : Value} {xs : List Nat} (h : Owns w base v xs) (hb : Below w.heap.size w w') : Owns w' base v xs := by
  refine ⟨h.1, ?_⟩
  rcases h.2 with hn | ⟨g, cap, cur, rfl, hb1, hgg, rest⟩
  · exact .inl hn
  · exact .inr ⟨g, cap, cur, rfl, hb1, by rw [hb.block g (Array.getElem?_eq_some_iff.1 hgg).1]; exact hgg, rest⟩
set_option maxRecDepth 4000 in
set_option maxHeartbeats 2000000 in
theorem Grow_ex (b : Nat) (w : World) (h : ExAt w b 1) (hT : Tab w) (hg : 2 < w.heap.size) :
    Calls Tryz.prog 41 #[.slice (some ⟨b, 0, none⟩) 1 1, .float .f64 4877398396442247168] w fun r w' => ∃ g cap, r = .returned (.tuple #[.slice (some ⟨g, 0, none⟩) 2 cap, .int .i64 0]) ∧ ExAt w' g 2 ∧ Below w.heap.size w w' := by
  have HR := hid (refusalWith_ex 1 1 b w h hT hg)
  have H := hid h
  have H2 := hid two_60
  have HL : Hid (∀ W x b v xs, x < 18446744073709551616 → x % 9223372036854775808 ≠ 0 → Hid (Owns W w.heap.size v xs) → W.cell? ⟨b, 0, none⟩ = some (.float .f64 x) → w.heap.size ≤ W.heap.size → xs.length ≤ 1000 → Calls Tryz.prog 68 #[v, .slice (some ⟨b, 0, none⟩) 1 1] W fun r w' => ∃ v', r = .returned v' ∧ Hid (Owns w' w.heap.size v' (xs ++ [x])) ∧ Below w.heap.size W w') := fun W x b v xs hx h0 ho hc hs hn => lay_one x b w.heap.size v xs W hx h0 ho.out hc hs hn
  clear h hT hg
  go_enter Tryz.func41, Tryz.ntmps41
  go_wp2_with fail
  refine HR.out.mono ?_
  rintro r w1 ⟨rfl, hb1⟩
  have HB1 := hid hb1
  clear hb1
  go_wp2_with fail
  go_loopw [7, 8, 21] (fun u q i wr => (i = .int .i64 0 ∧ u = .slice none 0 0 ∧ q = .float .f64 4877398396442247168 ∧ wr = w1) ∨ (i = .int .i64 1 ∧ q = .float .f64 4877398396442247168 ∧ Hid (Owns wr w.heap.size u [4607182418800017408]) ∧ Hid (Below w.heap.size w wr))) (fun _ _ i _ => 1 - (intOf i).toNat)
  case atStart => exact Or.inl ⟨rfl, rfl, rfl, rfl⟩
  case round =>
    rcases hrel with ⟨rfl, rfl, rfl, rfl⟩ | ⟨rfl, rfl, HO, HB⟩
    · have c0 := (H.out.below HB1.out).2.1
      go_wp2_with fail
      refine (H2.out _).mono ?_
      rintro r w2 ⟨rfl, hb2⟩
      have HB2 := hid (HB1.out.trans (hb2.mono HB1.out.size))
      clear hb2 c0
      go_wp2_with fail
      refine (HL.out _ 4607182418800017408 _ _ [] (by decide) (by decide) (World.ownsRow_nil _ _ _ _) (by simp [go_sem]) (by have := HB2.out.size; simp; omega) (by decide)).mono ?_
      rintro r w3 ⟨v', rfl, HO, hb3⟩
      have HB3 : Hid (Below w.heap.size w w3) := (HB2.out.alloc HB2.out.size _).trans hb3
      clear hb3
      go_wp2
      refine ⟨Or.inr ⟨by go_num, rfl, HO, HB3⟩, ?_⟩
      simp [intOf]
    · go_wp2_with fail
      refine (HL.out _ 4877398396442247168 _ _ [4607182418800017408] (by decide) (by decide) (World.ownsRow.alloc HO.out _) (by simp [go_sem]) (by have := HB.out.size; simp; omega) (by decide)).mono ?_
      rintro r w3 ⟨v', rfl, HO3, hb3⟩
      have HB3 : Hid (Below w.heap.size w w3) := (HB.out.alloc HB.out.size _).trans hb3
      obtain ⟨g, cap, rfl, hcell⟩ := Owns.slice HO3.out (by simp)
      have HE : Hid (ExAt w3 g 2) := ⟨Or.inr rfl, hcell 0 (by decide), fun _ => hcell 1 (by decide)⟩
      have HTD := hid (told_ex 2 cap g w3 HE.out)
      clear hb3 hcell HO HO3
      go_wp2_with fail
      refine HTD.out.mono ?_
      rintro r w4 ⟨rfl, hb4⟩
      have HE4 := hid (HE.out.below hb4)
      have HB4 := hid (HB3.out.trans (hb4.mono HB3.out.size))
      clear hb4
      go_wp2
      go_ret2
      exact ⟨g, cap, rfl, HE4.out, HB4.out⟩
theorem can_2 : canonOf 4845873199050653696 = 4845873199050653696 ∧ canonOf 4728779608739020800 = 4728779608739020800 ∧ canonOf 4850376798745133056 = 4850376798745133056 := by decide +kernel
theorem two_53 (w : World) : Calls Tryz.prog 6 #[.float .f64 4845873199050653696, .float .f64 4607182418800017408] w fun r w' => r = .returned (.tuple #[.float .f64 4845873199050653696, .float .f64 4607182418800017408]) ∧ Below w.heap.size w w' := by
  have := Two_at 4845873199050653696 4607182418800017408 4845873199050653696 0 4845873199050653696 0 4607182418800017408 4607182418800017408 w (by decide +kernel) (by decide +kernel) (by decide +kernel) (by decide +kernel) (by decide +kernel) (by decide +kernel) (by decide) (by decide)
  rw [can_2.1, can_1.2] at this
  exact this
theorem split_27 (w : World) : Calls Tryz.prog 11 #[.float .f64 4728779608772575232] w fun r w' => r = .returned (.tuple #[.float .f64 4728779608739020800, .float .f64 4607182418800017408]) ∧ Below w.heap.size w w' := by
  have := Split_at 4728779608772575232 4850376798745133056 4850376798711578624 4728779608739020800 4607182418800017408 w (by decide +kernel) (by decide +kernel) (by decide +kernel) (by decide +kernel) (by decide) (by decide)
  rw [can_2.2.1, can_1.2] at this
  exact this
theorem prod_27 (w : World) : Calls Tryz.prog 13 #[.float .f64 4728779608772575232, .float .f64 4728779608772575232] w fun r w' => r = .returned (.tuple #[.float .f64 4850376798745133056, .float .f64 4607182418800017408]) ∧ Below w.heap.size w w' := by
  have := Prod_at 4728779608772575232 4728779608772575232 4850376798745133056 4728779608739020800 4607182418800017408 4728779608739020800 4607182418800017408 4607182418800017408 4850376798678024192 4733283208366391296 4728779608739020800 4728779608739020800 4728779608739020800 0 4607182418800017408 w (by decide +kernel) split_27 split_27 (by decide +kernel) (by decide +kernel) (by decide +kernel) (by decide +kernel) (by decide +kernel) (by decide +kernel) (by decide +kernel) (by decide +kernel) (by decide) (by decide)
  rw [can_2.2.2, can_1.2] at this
  exact this
theorem det_14 : detS 4607182418800017408 4611686018427387904 4613937818241073152 4616189618054758400 = -1 ∧ detE 4607182418800017408 4611686018427387904 4613937818241073152 4616189618054758400 = 0 := by decide +kernel
theorem cmp4 : (FloatKind.f64.format.order 4845873199050653696 4845873199050653696 == some .eq) = true ∧ (FloatKind.f64.format.order 4607182418800017408 4607182418800017408 == some .eq) = true ∧ (FloatKind.f64.format.order 4728779608739020800 4728779608739020800 == some .eq) = true ∧ (FloatKind.f64.format.order 4850376798745133056 4850376798745133056 == some .eq) = true := by decide +kernel
set_option maxRecDepth 4000 in
set_option maxHeartbeats 2000000 in
theorem awake4_any (w : World) (hT : Tab w) (hg : 2 < w.heap.size) (hT3 : Tab32 w) (hs : 1 < w.heap.size) :
    Calls Tryz.prog 17 #[] w fun r w' => r = .returned (.bool true) ∧ Below w.heap.size w w' := by
  have HT : Hid (∀ W, Below w.heap.size w W → Tab W ∧ 2 < W.heap.size ∧ Tab32 W ∧ 1 < W.heap.size) := fun W hW => ⟨hT.below hg hW, Nat.lt_of_lt_of_le hg hW.size, hT3.below hs hW, Nat.lt_of_lt_of_le hs hW.size⟩
  have HD : Hid (∀ W, Below w.heap.size w W → Calls Tryz.prog 42 #[.float .f64 4607182418800017408, .float .f64 4611686018427387904, .float .f64 4613937818241073152, .float .f64 4616189618054758400] W fun r w' => r = .returned (.tuple #[.int .i64 (-1), .int .i64 0]) ∧ Below W.heap.size W w') := fun W hW => by
    have := Det_any 4607182418800017408 4611686018427387904 4613937818241073152 4616189618054758400 W (by decide) (by decide) (by decide) (by decide) (HT.out W hW).1 (HT.out W hW).2.1 (HT.out W hW).2.2.1 (HT.out W hW).2.2.2
    rw [det_14.1, det_14.2] at this
    exact this
  have HG : Hid (∀ W b, Below w.heap.size w W → W.cell? ⟨b, 0, none⟩ = some (.float .f64 4607182418800017408) → Calls Tryz.prog 41 #[.slice (some ⟨b, 0, none⟩) 1 1, .float .f64 4877398396442247168] W fun r w' => ∃ g cap, r = .returned (.tuple #[.slice (some ⟨g, 0, none⟩) 2 cap, .int .i64 0]) ∧ Hid (ExAt w' g 2) ∧ Below W.heap.size W w') := fun W b hW h0 => Grow_ex b W ⟨Or.inl rfl, h0, fun c => absurd c (by decide)⟩ (HT.out W hW).1 (HT.out W hW).2.1
  obtain ⟨o1, o2, o3, o4⟩ := cmp4
  clear hT hg hT3 hs
  go_enter Tryz.func17, Tryz.ntmps17
  go_wp2_with fail
  refine (two_53 _).mono ?_
  rintro r w1 ⟨rfl, hb1⟩
  have HB1 := hid hb1
  clear hb1
  go_wp2_with fail
  refine (split_27 _).mono ?_
  rintro r w2 ⟨rfl, hb2⟩
  have HB2 := hid (HB1.out.trans (hb2.mono HB1.out.size))
  clear hb2
  go_wp2_with fail
  refine (prod_27 _).mono ?_
  rintro r w3 ⟨rfl, hb3⟩
  have HB3 := hid (HB2.out.trans (hb3.mono HB2.out.size))
  clear hb3
  go_wp2_with fail
  refine (HG.out _ _ (HB3.out.alloc HB3.out.size _) (by simp [go_sem])).mono ?_
  rintro r w4 ⟨g, cap, rfl, HE, hb4⟩
  have HB4 := hid ((HB3.out.alloc HB3.out.size _).trans (hb4.mono (by have := HB3.out.size; simp; omega)))
  clear hb4
  go_wp2_with fail
  refine (HD.out _ HB4.out).mono ?_
  rintro r w5 ⟨rfl, hb5⟩
  have HB5 := hid (HB4.out.trans (hb5.mono HB4.out.size))
  have HE5 := hid (HE.out.below hb5)
  have c0 := HE5.out.2.1
  clear hb5
  go_wp2_with fail
  refine (Is_ex 2 cap g _ HE5.out (HT.out _ HB5.out).1 (HT.out _ HB5.out).2.1).mono ?_
  rintro r w6 ⟨rfl, hb6⟩
  have HB6 := hid (HB5.out.trans (hb6.mono HB5.out.size))
  clear hb6
  go_wp2
  go_ret
  exact ⟨rfl, HB6.out⟩
end Go.Proofs.YtijadahpddmhjaaGreatDoor
