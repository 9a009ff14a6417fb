
/- What eft's Turn does; turned and exchanged. (Written by mkefc.py.) -/
import Derived.Test.YteidllapjokhlaaDoorP42
namespace Go.Proofs.YteidllapjokhlaaDoor
open Go.RowKit Go.IntWalk

def turnV (p q r s t u : Nat) : Int := sv p * sv s - sv p * sv u + sv r * sv u - sv r * sv q + sv t * sv q - sv t * sv s
def turnF (p q r s t u : Nat) : Bool := finB p && finB q && finB r && finB s && finB t && finB u
def turnS (p q r s t u : Nat) : Int := if turnF p q r s t u then sgnE (turnV p q r s t u) else 0
def turnE (p q r s t u : Nat) : Int := if turnF p q r s t u then 0 else 4
set_option maxRecDepth 4000 in
set_option maxHeartbeats 1000000 in
theorem Turn_any (p q r s t u : Nat) (w : World) (hp : p < 18446744073709551616) (hq : q < 18446744073709551616) (hr : r < 18446744073709551616) (hs : s < 18446744073709551616) (ht : t < 18446744073709551616) (hu : u < 18446744073709551616) (hT : Tab w) (hg : 2 < w.heap.size) (hT3 : Tab32 w) (hg3 : 1 < w.heap.size) :
    Calls Tryd.prog 8 #[.float .f64 p, .float .f64 q, .float .f64 r, .float .f64 s, .float .f64 t, .float .f64 u] w fun z w' => z = .returned (.tuple #[.int .i64 (turnS p q r s t u), .int .i64 (turnE p q r s t u)]) ∧ Below w.heap.size w w' := by
  have hnq := neg_flip q hq
  have hfq := flip_lt hq
  have hns := neg_flip s hs
  have hfs := flip_lt hs
  have hnu := neg_flip u hu
  have hfu := flip_lt hu
  have HT : Hid (∀ W, Below w.heap.size w W → Tab W ∧ 2 < W.heap.size ∧ Tab32 W ∧ 1 < W.heap.size) := fun W hW => ⟨hT.below hg hW, Nat.lt_of_lt_of_le hg hW.size, hT3.below hg3 hW, Nat.lt_of_lt_of_le hg3 hW.size⟩
  by_cases hf : turnF p q r s t u = true
  · have e1 : turnS p q r s t u = sgnE (turnV p q r s t u) := by unfold turnS; rw [if_pos hf]
    have e2 : turnE p q r s t u = 0 := by unfold turnE; rw [if_pos hf]
    rw [e1, e2]
    unfold turnF at hf
    simp only [Bool.and_eq_true] at hf
    obtain ⟨⟨⟨⟨⟨fp, fq⟩, fr⟩, fs⟩, ft⟩, fu⟩ := hf
    have fq' : finB (flipOf q) = true := by rw [finB_flip q hq]; exact fq
    have fs' : finB (flipOf s) = true := by rw [finB_flip s hs]; exact fs
    have fu' : finB (flipOf u) = true := by rw [finB_flip u hu]; exact fu
    have hv : dotSv [p, p, r, r, t, t] [s, flipOf u, u, flipOf q, q, flipOf s] 6 = turnV p q r s t u := by
      show 0 + sv p * sv s + sv p * sv (flipOf u) + sv r * sv u + sv r * sv (flipOf q) + sv t * sv q + sv t * sv (flipOf s) = _
      unfold turnV
      rw [sv_flip u hu, sv_flip q hq, sv_flip s hs, Int.mul_neg, Int.mul_neg, Int.mul_neg]
      omega
    have HD : Hid (∀ T, Calls Tryd.prog 29 #[.slice (some ⟨w.heap.size, 0, none⟩) 6 6, .slice (some ⟨w.heap.size + 1, 0, none⟩) 6 6] ((w.alloc (.cells #[.float .f64 p, .float .f64 p, .float .f64 r, .float .f64 r, .float .f64 t, .float .f64 t] T)).alloc (.cells #[.float .f64 s, .float .f64 (flipOf u), .float .f64 u, .float .f64 (flipOf q), .float .f64 q, .float .f64 (flipOf s)] T)) fun z w' => DyOut (turnV p q r s t u) (-2148) (w.heap.size + 2) z w' ∧ Below (w.heap.size + 2) ((w.alloc (.cells #[.float .f64 p, .float .f64 p, .float .f64 r, .float .f64 r, .float .f64 t, .float .f64 t] T)).alloc (.cells #[.float .f64 s, .float .f64 (flipOf u), .float .f64 u, .float .f64 (flipOf q), .float .f64 q, .float .f64 (flipOf s)] T)) w') := fun T => by
      obtain ⟨b1, b2⟩ := two_blkE w (.cells #[.float .f64 p, .float .f64 p, .float .f64 r, .float .f64 r, .float .f64 t, .float .f64 t] T) (.cells #[.float .f64 s, .float .f64 (flipOf u), .float .f64 u, .float .f64 (flipOf q), .float .f64 q, .float .f64 (flipOf s)] T)
      have hW : Below w.heap.size w ((w.alloc (.cells #[.float .f64 p, .float .f64 p, .float .f64 r, .float .f64 r, .float .f64 t, .float .f64 t] T)).alloc (.cells #[.float .f64 s, .float .f64 (flipOf u), .float .f64 u, .float .f64 (flipOf q), .float .f64 q, .float .f64 (flipOf s)] T)) := ((Below.refl _ _).alloc (Nat.le_refl _) _).alloc (by simp) _
      have := Dot_fin [p, p, r, r, t, t] [s, flipOf u, u, flipOf q, q, flipOf s] w.heap.size 0 6 (w.heap.size + 1) 0 6 _ rfl (numsL _ _ [p, p, r, r, t, t] T b1) (numsL _ _ [s, flipOf u, u, flipOf q, q, flipOf s] T b2) (finl_of (by simp [hp, hr, ht, finB_is p fp, finB_is r fr, finB_is t ft])) (finl_of (by simp [hq, hs, hu, hfq, hfs, hfu, finB_is q fq, finB_is s fs, finB_is u fu, finB_is _ fq', finB_is _ fs', finB_is _ fu'])) (by simp) (HT.out _ hW).1 (HT.out _ hW).2.1 (HT.out _ hW).2.2.1 (HT.out _ hW).2.2.2
      rw [show [p, p, r, r, t, t].length = 6 from rfl, show [s, flipOf u, u, flipOf q, q, flipOf s].length = 6 from rfl, hv] at this
      simpa using this
    obtain ⟨Z, hZ⟩ : ∃ Z, Hid (turnV p q r s t u = Z) := ⟨_, rfl⟩
    rw [hZ.out] at HD ⊢
    obtain ⟨mq, hmq⟩ : ∃ m, Hid (flipOf q = m) := ⟨_, rfl⟩
    rw [hmq.out] at HD hnq
    obtain ⟨ms, hms⟩ : ∃ m, Hid (flipOf s = m) := ⟨_, rfl⟩
    rw [hms.out] at HD hns
    obtain ⟨mu, hmu⟩ : ∃ m, Hid (flipOf u = m) := ⟨_, rfl⟩
    rw [hmu.out] at HD hnu
    clear hp hq hr hs ht hu hT hg hT3 hg3 fp fq fr fs ft fu fq' fs' fu' hv hfq hfs hfu e1 e2 HT
    go_enter Tryd.func8, Tryd.ntmps8
    go_wp2_with fail
    refine (HD.out _).mono ?_
    rintro z w1 ⟨ho, hb1⟩
    obtain ⟨n1, a1, l1, c1, e1, rfl, hr⟩ := ho.ret
    have HB1 : Hid (Below w.heap.size w w1) := (((Below.refl _ _).alloc (Nat.le_refl _) _).alloc (by simp) _).trans (hb1.mono (by omega))
    have HA1 := hid hr.at
    clear ho hb1 hr
    go_wp2_with fail
    refine (signOf_dy _ _ _ _ _ _ _ _ HA1.out).mono ?_
    rintro z w2 ⟨rfl, hb2⟩
    have HB2 : Hid (Below w.heap.size w w2) := HB1.out.trans (hb2.mono HB1.out.size)
    clear hb2
    go_wp2
    go_ret2
    exact ⟨rfl, HB2.out⟩
  · have hf : turnF p q r s t u = false := by simpa using hf
    have e1 : turnS p q r s t u = 0 := by unfold turnS; rw [hf]; rfl
    have e2 : turnE p q r s t u = 4 := by unfold turnE; rw [hf]; rfl
    rw [e1, e2]
    have HD : Hid (∀ T, Calls Tryd.prog 29 #[.slice (some ⟨w.heap.size, 0, none⟩) 6 6, .slice (some ⟨w.heap.size + 1, 0, none⟩) 6 6] ((w.alloc (.cells #[.float .f64 p, .float .f64 p, .float .f64 r, .float .f64 r, .float .f64 t, .float .f64 t] T)).alloc (.cells #[.float .f64 s, .float .f64 (flipOf u), .float .f64 u, .float .f64 (flipOf q), .float .f64 q, .float .f64 (flipOf s)] T)) fun z w' => (∃ n a l c e, z = .returned (.tuple #[.agg #[.bool n, .slice a l c, .int .i64 e], .int .i64 4])) ∧ Below (w.heap.size + 2) ((w.alloc (.cells #[.float .f64 p, .float .f64 p, .float .f64 r, .float .f64 r, .float .f64 t, .float .f64 t] T)).alloc (.cells #[.float .f64 s, .float .f64 (flipOf u), .float .f64 u, .float .f64 (flipOf q), .float .f64 q, .float .f64 (flipOf s)] T)) w') := fun T => by
      obtain ⟨b1, b2⟩ := two_blkE w (.cells #[.float .f64 p, .float .f64 p, .float .f64 r, .float .f64 r, .float .f64 t, .float .f64 t] T) (.cells #[.float .f64 s, .float .f64 (flipOf u), .float .f64 u, .float .f64 (flipOf q), .float .f64 q, .float .f64 (flipOf s)] T)
      refine (Dot_bad [p, p, r, r, t, t] [s, flipOf u, u, flipOf q, q, flipOf s] w.heap.size 0 6 (w.heap.size + 1) 0 6 _ rfl (numsL _ _ [p, p, r, r, t, t] T b1) (numsL _ _ [s, flipOf u, u, flipOf q, q, flipOf s] T b2) (bitl_of (by simp [hp, hr, ht])) (bitl_of (by simp [hq, hs, hu, hfq, hfs, hfu])) ?_ (by simp)).mono ?_
      · have h2 := hf
        unfold turnF finB at h2
        simp only [allFin, List.all_cons, List.all_nil, Bool.and_true, exp_flip q hq, exp_flip s hs, exp_flip u hu]
        rw [← h2]
        cases (!(expOf p == 2047)) <;> cases (!(expOf q == 2047)) <;> cases (!(expOf r == 2047)) <;> cases (!(expOf s == 2047)) <;> cases (!(expOf t == 2047)) <;> cases (!(expOf u == 2047)) <;> rfl
      · rintro z w' ⟨rfl, h⟩
        exact ⟨⟨_, _, _, _, _, rfl⟩, by simpa using h⟩
    obtain ⟨mq, hmq⟩ : ∃ m, Hid (flipOf q = m) := ⟨_, rfl⟩
    rw [hmq.out] at HD hnq
    obtain ⟨ms, hms⟩ : ∃ m, Hid (flipOf s = m) := ⟨_, rfl⟩
    rw [hms.out] at HD hns
    obtain ⟨mu, hmu⟩ : ∃ m, Hid (flipOf u = m) := ⟨_, rfl⟩
    rw [hmu.out] at HD hnu
    clear hp hq hr hs ht hu hT hg hT3 hg3 hf hfq hfs hfu e1 e2 HT
    go_enter Tryd.func8, Tryd.ntmps8
    go_wp2_with fail
    refine (HD.out _).mono ?_
    rintro z w1 ⟨⟨n1, a1, l1, c1, e1, rfl⟩, hb1⟩
    have HB1 : Hid (Below w.heap.size w w1) := (((Below.refl _ _).alloc (Nat.le_refl _) _).alloc (by simp) _).trans (hb1.mono (by omega))
    clear hb1
    go_wp2_with fail
    refine (signOf_err _ _ _ _ _ _).mono ?_
    rintro z w2 ⟨rfl, hb2⟩
    have HB2 : Hid (Below w.heap.size w w2) := HB1.out.trans (hb2.mono HB1.out.size)
    clear hb2
    go_wp2
    go_ret2
    exact ⟨rfl, HB2.out⟩
theorem turn_cycle (p q r s t u : Nat) : turnS r s t u p q = turnS p q r s t u ∧ turnE r s t u p q = turnE p q r s t u := by
  have h1 : turnF r s t u p q = turnF p q r s t u := by
    unfold turnF
    cases finB p <;> cases finB q <;> cases finB r <;> cases finB s <;> cases finB t <;> cases finB u <;> rfl
  have h2 : turnV r s t u p q = turnV p q r s t u := by unfold turnV; omega
  unfold turnS turnE
  rw [h1, h2]
  exact ⟨rfl, rfl⟩
theorem turn_swap (p q r s t u : Nat) : turnS r s p q t u = -turnS p q r s t u ∧ turnE r s p q t u = turnE p q r s t u := by
  have h1 : turnF r s p q t u = turnF p q r s t u := by
    unfold turnF
    cases finB p <;> cases finB q <;> cases finB r <;> cases finB s <;> cases finB t <;> cases finB u <;> rfl
  have h2 : turnV r s p q t u = -turnV p q r s t u := by unfold turnV; omega
  unfold turnS turnE
  rw [h1, h2, sgnE_neg]
  refine ⟨?_, rfl⟩
  split <;> simp
theorem det_swap (a b c d : Nat) : detS c d a b = -detS a b c d ∧ detE c d a b = detE a b c d ∧ detS b a d c = -detS a b c d ∧ detE b a d c = detE a b c d := by
  have h1 : detF c d a b = detF a b c d ∧ detF b a d c = detF a b c d := by
    unfold detF
    cases finB a <;> cases finB b <;> cases finB c <;> cases finB d <;> exact ⟨rfl, rfl⟩
  have h2 : detV c d a b = -detV a b c d := by unfold detV; rw [Int.mul_comm (sv c), Int.mul_comm (sv d)]; omega
  have h3 : detV b a d c = -detV a b c d := by unfold detV; omega
  unfold detS detE
  rw [h1.1, h1.2, h2, h3, sgnE_neg]
  refine ⟨?_, rfl, ?_, rfl⟩ <;> (split <;> simp)
theorem turnS_le (p q r s t u : Nat) : -1 ≤ turnS p q r s t u ∧ turnS p q r s t u ≤ 1 := by
  unfold turnS
  split
  · exact sgnE_le _
  · omega
theorem detS_le (a b c d : Nat) : -1 ≤ detS a b c d ∧ detS a b c d ≤ 1 := by
  unfold detS
  split
  · exact sgnE_le _
  · omega
end Go.Proofs.YteidllapjokhlaaDoor
