
/- What eft's signOf, Det and Turn do: the sign of the exact number, or ErrNumber. -/
import Derived.Test.YteidllapjokhlaaDoorP41
namespace Go.Proofs.YteidllapjokhlaaDoor
open Go.RowKit Go.IntWalk

def sgnE (z : Int) : Int := if z = 0 then 0 else if z < 0 then -1 else 1
theorem sgnE_neg (z : Int) : sgnE (-z) = -sgnE z := by
  unfold sgnE
  split <;> split <;> (try split) <;> (try split) <;> omega
theorem sgnE_le (z : Int) : -1 ≤ sgnE z ∧ sgnE z ≤ 1 := by
  unfold sgnE
  split
  · omega
  · split <;> omega
theorem flip_md (x : Nat) (hx : x < 18446744073709551616) : flipOf x % 9223372036854775808 = x % 9223372036854775808 ∧ (9223372036854775808 ≤ flipOf x ↔ ¬ 9223372036854775808 ≤ x) := by
  unfold flipOf
  split <;> omega
theorem sv_flip (x : Nat) (hx : x < 18446744073709551616) : sv (flipOf x) = -sv x := by
  obtain ⟨h1, h2⟩ := flip_md x hx
  unfold sv
  rw [h1]
  by_cases c : 9223372036854775808 ≤ x
  · rw [if_pos c, if_neg (fun d => h2.1 d c), Int.neg_neg]
  · rw [if_neg c, if_pos (h2.2 c)]
theorem exp_flip (x : Nat) (hx : x < 18446744073709551616) : (expOf (flipOf x) == 2047) = (expOf x == 2047) := by
  obtain ⟨h1, h2⟩ := flip_md x hx
  have hf := flip_lt hx
  rw [Bool.eq_iff_iff, beq_iff_eq, beq_iff_eq]
  unfold expOf canonOf
  rw [h1]
  by_cases c : 9218868437227405312 < x % 9223372036854775808
  · rw [if_pos c, if_pos c]
  · rw [if_neg c, if_neg c]
    omega
theorem neg_flip (x : Nat) (hx : x < 18446744073709551616) : Op.unary .neg (.float .f64 x) = pure (.float .f64 (flipOf x)) := by
  have h := xor_sign x hx
  have h2 := u64_xor_nat x 9223372036854775808 hx (by omega)
  have e : x ^^^ 9223372036854775808 = flipOf x := by
    have h3 := h2.symm.trans h
    omega
  rw [← e]
  rfl
set_option maxHeartbeats 400000 in
theorem signOf_dy (neg : Bool) (a : Option Addr) (n cap : Nat) (e' z e : Int) (w : World) (h : DyAt w neg a n cap e' z e) :
    Calls Tryd.prog 28 #[.agg #[.bool neg, .slice a n cap, .int .i64 e'], .int .i64 0] w fun r w' => r = .returned (.tuple #[.int .i64 (sgnE z), .int .i64 0]) ∧ Below w.heap.size w w' := by
  obtain ⟨L, rfl, hcap, hm, hv, hmay⟩ := h
  have key : (L.length = 0 ∧ sgnE z = 0) ∨ ((1 : Int) ≤ (L.length : Int) ∧ sgnE z = if neg then -1 else 1) := by
    rcases hv.val with ⟨z0, l0, m0, x0⟩ | ⟨l0, o0, z0, k, hk, hx⟩
    · left; rw [l0, z0]; exact ⟨rfl, rfl⟩
    · right
      refine ⟨?_, ?_⟩
      · have : L.length ≠ 0 := fun c => l0 (List.length_eq_zero_iff.1 c)
        omega
      · have hp : (0 : Int) < 2 ^ k := Int.pow_pos (by decide)
        have hn : (0 : Int) < (natL L : Int) := by omega
        have hq : (0 : Int) < (natL L : Int) * 2 ^ k := Int.mul_pos hn hp
        unfold intL at hk
        unfold sgnE
        rw [if_neg z0]
        cases neg
        · rw [if_neg (by decide)] at hk
          rw [if_neg (show ¬ z < 0 by omega)]; rfl
        · rw [if_pos rfl, Int.neg_mul] at hk
          rw [if_pos (show z < 0 by omega)]; rfl
  obtain ⟨l, hl⟩ : ∃ l, Hid (L.length = l) := ⟨_, rfl⟩
  obtain ⟨s, hs⟩ : ∃ s, Hid (sgnE z = s) := ⟨_, rfl⟩
  rw [hl.out, hs.out] at key
  rw [hl.out, hs.out]
  clear hcap hm hv hmay
  rcases key with ⟨rfl, rfl⟩ | ⟨h1, h2⟩
  · go_enter Tryd.func28, Tryd.ntmps28
    go_wp2
    go_ret2
    exact ⟨rfl, (Below.refl _ _).alloc (Nat.le_refl _) _⟩
  · subst h2
    cases neg
    · go_enter Tryd.func28, Tryd.ntmps28
      go_wp2
      go_ret2
      exact ⟨rfl, (Below.refl _ _).alloc (Nat.le_refl _) _⟩
    · go_enter Tryd.func28, Tryd.ntmps28
      go_wp2
      go_ret2
      exact ⟨rfl, (Below.refl _ _).alloc (Nat.le_refl _) _⟩
set_option maxHeartbeats 400000 in
theorem signOf_err (neg : Bool) (a : Option Addr) (n cap : Nat) (e' : Int) (w : World) :
    Calls Tryd.prog 28 #[.agg #[.bool neg, .slice a n cap, .int .i64 e'], .int .i64 4] w fun r w' => r = .returned (.tuple #[.int .i64 0, .int .i64 4]) ∧ Below w.heap.size w w' := by
  go_enter Tryd.func28, Tryd.ntmps28
  go_wp2
  go_ret2
  exact ⟨rfl, (Below.refl _ _).alloc (Nat.le_refl _) _⟩
end Go.Proofs.YteidllapjokhlaaDoor

namespace Go.Proofs.YteidllapjokhlaaDoor
open Go.RowKit Go.IntWalk

theorem numsL (V : World) (b : Nat) (zs : List Nat) (T : TypeId) (h : V.heap[b]? = some (.cells ((zs.map (fun z => Value.float .f64 z)).toArray) T)) : NumsAt V b 0 zs :=
  ⟨(Array.getElem?_eq_some_iff.1 h).1, fun i hi => by
    simp [World.cell?, h, hi, List.getD]⟩
theorem two_blkE (w : World) (A B : Obj) : ((w.alloc A).alloc B).heap[w.heap.size]? = some A ∧ ((w.alloc A).alloc B).heap[w.heap.size + 1]? = some B := by
  have h1 : (w.alloc A).heap.size = w.heap.size + 1 := by simp
  constructor
  · rw [((Below.refl (w.alloc A).heap.size (w.alloc A)).alloc (Nat.le_refl _) B).block w.heap.size (by omega)]
    exact new_blk w A _ rfl
  · exact new_blk (w.alloc A) B _ h1.symm
theorem finl_of {zs : List Nat} (h : ∀ z, z ∈ zs → z < 18446744073709551616 ∧ z % 9223372036854775808 < 9218868437227405312) : FinL zs := fun i hi => by
  have : zs.getD i 0 ∈ zs := by rw [List.getD_eq_getElem?_getD, List.getElem?_eq_getElem hi]; exact List.getElem_mem hi
  exact h _ this
theorem bitl_of {zs : List Nat} (h : ∀ z, z ∈ zs → z < 18446744073709551616) : BitL zs := fun i hi => by
  have : zs.getD i 0 ∈ zs := by rw [List.getD_eq_getElem?_getD, List.getElem?_eq_getElem hi]; exact List.getElem_mem hi
  exact h _ this
def finB (x : Nat) : Bool := !(expOf x == 2047)
theorem finB_is (x : Nat) (h : finB x = true) : x % 9223372036854775808 < 9218868437227405312 := by
  unfold finB at h
  have h1 : expOf x ≠ 2047 := by simpa using h
  unfold expOf canonOf at h1
  split at h1 <;> omega
theorem finB_flip (x : Nat) (hx : x < 18446744073709551616) : finB (flipOf x) = finB x := by unfold finB; rw [exp_flip x hx]
/-- The sign, and the error. -/
def detV (a b c d : Nat) : Int := sv a * sv d - sv b * sv c
def detF (a b c d : Nat) : Bool := finB a && finB b && finB c && finB d
def detS (a b c d : Nat) : Int := if detF a b c d then sgnE (detV a b c d) else 0
def detE (a b c d : Nat) : Int := if detF a b c d then 0 else 4
set_option maxRecDepth 4000 in
set_option maxHeartbeats 1000000 in
theorem Det_any (a b c d : Nat) (w : World) (ha : a < 18446744073709551616) (hb : b < 18446744073709551616) (hc : c < 18446744073709551616) (hd : d < 18446744073709551616) (hT : Tab w) (hg : 2 < w.heap.size) (hT3 : Tab32 w) (hs : 1 < w.heap.size) :
    Calls Tryd.prog 10 #[.float .f64 a, .float .f64 b, .float .f64 c, .float .f64 d] w fun r w' => r = .returned (.tuple #[.int .i64 (detS a b c d), .int .i64 (detE a b c d)]) ∧ Below w.heap.size w w' := by
  have hn := neg_flip c hc
  have hfc := flip_lt hc
  have HT : Hid (∀ W, Below w.heap.size w W → Tab W ∧ 2 < W.heap.size ∧ Tab32 W ∧ 1 < W.heap.size) := fun W hW => ⟨hT.below hg hW, Nat.lt_of_lt_of_le hg hW.size, hT3.below hs hW, Nat.lt_of_lt_of_le hs hW.size⟩
  by_cases hf : detF a b c d = true
  · have e1 : detS a b c d = sgnE (detV a b c d) := by unfold detS; rw [if_pos hf]
    have e2 : detE a b c d = 0 := by unfold detE; rw [if_pos hf]
    rw [e1, e2]
    unfold detF at hf
    simp only [Bool.and_eq_true] at hf
    obtain ⟨⟨⟨fa, fb⟩, fc⟩, fd⟩ := hf
    have fc' : finB (flipOf c) = true := by rw [finB_flip c hc]; exact fc
    have hv : dotSv [a, b] [d, flipOf c] 2 = detV a b c d := by
      show 0 + sv a * sv d + sv b * sv (flipOf c) = _
      unfold detV
      rw [sv_flip c hc, Int.mul_neg]
      omega
    have HD : Hid (∀ T, Calls Tryd.prog 29 #[.slice (some ⟨w.heap.size, 0, none⟩) 2 2, .slice (some ⟨w.heap.size + 1, 0, none⟩) 2 2] ((w.alloc (.cells #[.float .f64 a, .float .f64 b] T)).alloc (.cells #[.float .f64 d, .float .f64 (flipOf c)] T)) fun r w' => DyOut (detV a b c d) (-2148) (w.heap.size + 2) r w' ∧ Below (w.heap.size + 2) ((w.alloc (.cells #[.float .f64 a, .float .f64 b] T)).alloc (.cells #[.float .f64 d, .float .f64 (flipOf c)] T)) w') := fun T => by
      obtain ⟨b1, b2⟩ := two_blkE w (.cells #[.float .f64 a, .float .f64 b] T) (.cells #[.float .f64 d, .float .f64 (flipOf c)] T)
      have hW : Below w.heap.size w ((w.alloc (.cells #[.float .f64 a, .float .f64 b] T)).alloc (.cells #[.float .f64 d, .float .f64 (flipOf c)] T)) := ((Below.refl _ _).alloc (Nat.le_refl _) _).alloc (by simp) _
      have := Dot_fin [a, b] [d, flipOf c] w.heap.size 0 2 (w.heap.size + 1) 0 2 _ rfl (numsL _ _ [a, b] T b1) (numsL _ _ [d, flipOf c] T b2) (finl_of (by simp [ha, hb, finB_is a fa, finB_is b fb])) (finl_of (by simp [hd, hfc, finB_is d fd, finB_is _ fc'])) (by simp) (HT.out _ hW).1 (HT.out _ hW).2.1 (HT.out _ hW).2.2.1 (HT.out _ hW).2.2.2
      rw [show [a, b].length = 2 from rfl, show [d, flipOf c].length = 2 from rfl, hv] at this
      simpa using this
    obtain ⟨Z, hZ⟩ : ∃ Z, Hid (detV a b c d = Z) := ⟨_, rfl⟩
    rw [hZ.out] at HD ⊢
    obtain ⟨m, hm⟩ : ∃ m, Hid (flipOf c = m) := ⟨_, rfl⟩
    rw [hm.out] at HD hn
    clear ha hb hc hd hT hg hT3 hs fa fb fc fd fc' hv hfc e1 e2 HT
    go_enter Tryd.func10, Tryd.ntmps10
    go_wp2_with fail
    refine (HD.out _).mono ?_
    rintro r w1 ⟨ho, hb1⟩
    obtain ⟨n1, a1, l1, c1, e1, rfl, hr⟩ := ho.ret
    have HB1 : Hid (Below w.heap.size w w1) := (((Below.refl _ _).alloc (Nat.le_refl _) _).alloc (by simp) _).trans (hb1.mono (by omega))
    have HA1 := hid hr.at
    clear ho hb1 hr
    go_wp2_with fail
    refine (signOf_dy _ _ _ _ _ _ _ _ HA1.out).mono ?_
    rintro r w2 ⟨rfl, hb2⟩
    have HB2 : Hid (Below w.heap.size w w2) := HB1.out.trans (hb2.mono HB1.out.size)
    clear hb2
    go_wp2
    go_ret2
    exact ⟨rfl, HB2.out⟩
  · have hf : detF a b c d = false := by simpa using hf
    have e1 : detS a b c d = 0 := by unfold detS; rw [hf]; rfl
    have e2 : detE a b c d = 4 := by unfold detE; rw [hf]; rfl
    rw [e1, e2]
    have HD : Hid (∀ T, Calls Tryd.prog 29 #[.slice (some ⟨w.heap.size, 0, none⟩) 2 2, .slice (some ⟨w.heap.size + 1, 0, none⟩) 2 2] ((w.alloc (.cells #[.float .f64 a, .float .f64 b] T)).alloc (.cells #[.float .f64 d, .float .f64 (flipOf c)] T)) fun r w' => (∃ n a l c e, r = .returned (.tuple #[.agg #[.bool n, .slice a l c, .int .i64 e], .int .i64 4])) ∧ Below (w.heap.size + 2) ((w.alloc (.cells #[.float .f64 a, .float .f64 b] T)).alloc (.cells #[.float .f64 d, .float .f64 (flipOf c)] T)) w') := fun T => by
      obtain ⟨b1, b2⟩ := two_blkE w (.cells #[.float .f64 a, .float .f64 b] T) (.cells #[.float .f64 d, .float .f64 (flipOf c)] T)
      refine (Dot_bad [a, b] [d, flipOf c] w.heap.size 0 2 (w.heap.size + 1) 0 2 _ rfl (numsL _ _ [a, b] T b1) (numsL _ _ [d, flipOf c] T b2) (bitl_of (by simp [ha, hb])) (bitl_of (by simp [hd, hfc])) ?_ (by simp)).mono ?_
      · have h2 := hf
        unfold detF finB at h2
        simp only [allFin, List.all_cons, List.all_nil, Bool.and_true, exp_flip c hc]
        rw [← h2]
        cases (!(expOf a == 2047)) <;> cases (!(expOf b == 2047)) <;> cases (!(expOf c == 2047)) <;> cases (!(expOf d == 2047)) <;> rfl
      · rintro r w' ⟨rfl, h⟩
        exact ⟨⟨_, _, _, _, _, rfl⟩, by simpa using h⟩
    obtain ⟨m, hm⟩ : ∃ m, Hid (flipOf c = m) := ⟨_, rfl⟩
    rw [hm.out] at HD hn
    clear ha hb hc hd hT hg hT3 hs hf hfc e1 e2 HT
    go_enter Tryd.func10, Tryd.ntmps10
    go_wp2_with fail
    refine (HD.out _).mono ?_
    rintro r w1 ⟨⟨n1, a1, l1, c1, e1, rfl⟩, hb1⟩
    have HB1 : Hid (Below w.heap.size w w1) := (((Below.refl _ _).alloc (Nat.le_refl _) _).alloc (by simp) _).trans (hb1.mono (by omega))
    clear hb1
    go_wp2_with fail
    refine (signOf_err _ _ _ _ _ _).mono ?_
    rintro r w2 ⟨rfl, hb2⟩
    have HB2 : Hid (Below w.heap.size w w2) := HB1.out.trans (hb2.mono HB1.out.size)
    clear hb2
    go_wp2
    go_ret2
    exact ⟨rfl, HB2.out⟩
end Go.Proofs.YteidllapjokhlaaDoor
