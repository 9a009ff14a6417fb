
/- model: F and Q at the chapter's first example. -/
import Derived.Test.YtggiklghcnojiaaP37
import Derived.Laws.CopyOwn
namespace Go.Proofs.Ytggiklghcnojiaa
open Go.RowKit Go.IntWalk

theorem pt_one {W : World} {b : Nat} {k a : Int} {n f : Nat} (h : W.heap[b]? = some (PBox k a n f)) (hk : -9223372036854775808 ≤ k ∧ k ≤ 9223372036854775807) (ha : -9223372036854775808 ≤ a ∧ a ≤ 9223372036854775807) (hn : n < 18446744073709551616) (hf : f < 18446744073709551616) : PtF W (some ⟨b, 0, none⟩) 1 (fun _ => k) (fun _ => a) (fun _ => n) (fun _ => f) := by
  refine ⟨fun i _ => ⟨hk, ha, hn, hf⟩, fun _ => ⟨b, 0, rfl, (Array.getElem?_eq_some_iff.1 h).1, fun i hi => ?_⟩⟩
  obtain rfl : i = 0 := by omega
  obtain ⟨c0, c1, c2, c3⟩ := ptcells_of h
  exact ⟨c0, c1, c2, c3⟩
theorem dm_two : dmV 1 (fun _ => 2) (fun _ => 1) (fun _ => 4613937818241073152) (fun _ => 0) = 2 ∧ dmE 1 (fun _ => 2) (fun _ => 1) (fun _ => 4613937818241073152) (fun _ => 0) = 0 := by decide +kernel
theorem Dim_two (g : Nat) (w : World) (hg : w.heap[g]? = some (PBox 2 1 4613937818241073152 0)) : Calls Try.prog 6 #[.agg #[.slice (some ⟨g, 0, none⟩) 1 1]] w fun r w' => r = .returned (.tuple #[.int .i64 2, .int .i64 0]) ∧ Below w.heap.size w w' := by
  have := Dim_any (some ⟨g, 0, none⟩) 1 1 _ _ _ _ w (pt_one hg (by decide) (by decide) (by decide) (by decide)) (by decide)
  rw [dm_two.1, dm_two.2] at this
  exact this
theorem Check_two (g : Nat) (w : World) (hg : w.heap[g]? = some (PBox 2 1 4613937818241073152 0)) : Calls Try.prog 7 #[.agg #[.slice (some ⟨g, 0, none⟩) 1 1]] w fun r w' => r = .returned (.int .i64 0) ∧ Below w.heap.size w w' := by
  have := Check_mo (some ⟨g, 0, none⟩) 1 1 _ _ _ _ w (pt_one hg (by decide) (by decide) (by decide) (by decide)) (by decide)
  rw [dm_two.2] at this
  exact this
theorem Check_nil (w : World) : Calls Try.prog 7 #[.agg #[.slice none 0 0]] w fun r w' => r = .returned (.int .i64 1) ∧ Below w.heap.size w w' :=
  Check_mo none 0 0 (fun _ => 0) (fun _ => 0) (fun _ => 0) (fun _ => 0) w ⟨fun i hi => absurd hi (Nat.not_lt_zero _), fun h => absurd rfl h⟩ (by decide)
theorem row_four {W : World} {g : Nat} (h : W.rowIs g 38 4 (fun _ => .float .f64 0)) : W.heap[g]? = some (L4 0 0 0 0) := by
  obtain ⟨c, h1, h2, h3⟩ := h
  rw [h1]
  unfold L4
  congr 1
  obtain ⟨l⟩ := c
  match l, h2 with
  | [a, b, c, d], _ =>
    have e0 := h3 0 (by decide)
    have e1 := h3 1 (by decide)
    have e2 := h3 2 (by decide)
    have e3 := h3 3 (by decide)
    simp at e0 e1 e2 e3
    rw [e0, e1, e2, e3]
theorem zeros_two (w : World) : Calls Try.prog 34 #[.int .i64 2, .int .i64 2] w fun e w' => e = .returned (.agg #[.int .i64 2, .int .i64 2, .slice (some ⟨w.heap.size + 1, 0, none⟩) 4 4]) ∧ w'.heap[w.heap.size + 1]? = some (L4 0 0 0 0) ∧ Below w.heap.size w w' :=
  (zerosm_any 2 2 (by decide) (by decide) w).mono fun e w' h => ⟨h.1, row_four h.2.1, h.2.2⟩
def AxO : Obj := .cells #[.int .i64 0, .int .i64 0, .int .i64 0, .int .i64 2, .func (.func 27) #[] #[], .func (.func 28) #[] #[], .func (.func 29) #[] #[]] 62
/-- The seven cells of the axis. -/
def AxC (W : World) (b : Nat) : Prop := W.cell? ⟨b, 0, none⟩ = some (.int .i64 0) ∧ W.cell? ⟨b, 1, none⟩ = some (.int .i64 0) ∧ W.cell? ⟨b, 2, none⟩ = some (.int .i64 0) ∧ W.cell? ⟨b, 3, none⟩ = some (.int .i64 2) ∧ W.cell? ⟨b, 4, none⟩ = some (.func (.func 27) #[] #[]) ∧ W.cell? ⟨b, 5, none⟩ = some (.func (.func 28) #[] #[]) ∧ W.cell? ⟨b, 6, none⟩ = some (.func (.func 29) #[] #[])
theorem axcells_of {W : World} {b : Nat} (h : W.heap[b]? = some AxO) : AxC W b := by
  unfold AxO at h
  refine ⟨?_, ?_, ?_, ?_, ?_, ?_, ?_⟩ <;> simp [World.cell?, h]
theorem ax_own {W : World} {base b cap : Nat} (h : W.ownsRow base 62 7 (.slice (some ⟨b, 0, none⟩) 1 cap) 1 axL) : AxC W b ∧ b < W.heap.size := by
  have hc := h.cells (g := b) rfl
  have e : ∀ j u, axL[j]? = some u → W.cell? ⟨b, j, none⟩ = some u := fun j u hj => by
    have := hc j u hj
    rw [Go.WideShapes.add_plain, Nat.zero_add] at this
    exact this
  exact ⟨⟨e 0 _ rfl, e 1 _ rfl, e 2 _ rfl, e 3 _ rfl, e 4 _ rfl, e 5 _ rfl, e 6 _ rfl⟩, (h.lt b rfl).2⟩
theorem AxC.below {W W' : World} {b : Nat} (h : AxC W b) (hl : b < W.heap.size) (hb : Below W.heap.size W W') : AxC W' b := by
  unfold AxC
  rw [hb.cell (p := ⟨b, 0, none⟩) hl, hb.cell (p := ⟨b, 1, none⟩) hl, hb.cell (p := ⟨b, 2, none⟩) hl, hb.cell (p := ⟨b, 3, none⟩) hl, hb.cell (p := ⟨b, 4, none⟩) hl, hb.cell (p := ⟨b, 5, none⟩) hl, hb.cell (p := ⟨b, 6, none⟩) hl]
  exact h
theorem l4cells {W : World} {b x y z t : Nat} (h : W.heap[b]? = some (L4 x y z t)) : W.cell? ⟨b, 0, none⟩ = some (.float .f64 x) ∧ W.cell? ⟨b, 1, none⟩ = some (.float .f64 y) ∧ W.cell? ⟨b, 2, none⟩ = some (.float .f64 z) ∧ W.cell? ⟨b, 3, none⟩ = some (.float .f64 t) ∧ ∀ o, W.frozen? ⟨b, o, none⟩ = false := by
  unfold L4 at h
  refine ⟨?_, ?_, ?_, ?_, fun o => ?_⟩
  · simp [World.cell?, h]
  · simp [World.cell?, h]
  · simp [World.cell?, h]
  · simp [World.cell?, h]
  · simp [World.frozen?, h]
/-- What laid has before it. -/
def FrL (w W : World) (mb rb ob g pg : Nat) (L : Obj) : Prop := Below w.heap.size w W ∧ W.heap[mb]? = some (MoBox (some ⟨pg, 0, none⟩) 1 1) ∧ W.heap[rb]? = some (MBox 0 0 none 0 0) ∧ W.heap[ob]? = some (MBox 2 2 (some ⟨g, 0, none⟩) 4 4) ∧ W.heap[g]? = some L ∧ W.heap[pg]? = some (PBox 2 1 4613937818241073152 0)
theorem FrL.call {w W W' : World} {mb rb ob g pg : Nat} {L : Obj} (h : FrL w W mb rb ob g pg L) (hb : Below W.heap.size W W') : FrL w W' mb rb ob g pg L :=
  ⟨h.1.trans (hb.mono h.1.size), blkM h.2.1 hb, blkM h.2.2.1 hb, blkM h.2.2.2.1 hb, blkM h.2.2.2.2.1 hb, blkM h.2.2.2.2.2 hb⟩
theorem FrL.drew {w W : World} {mb rb ob g pg : Nat} {L : Obj} (h : FrL w W mb rb ob g pg L) : FrL w W.drew mb rb ob g pg L := ⟨h.1.drew, h.2⟩
/-- Two numbers copied into the first row, into the second. -/
theorem copy_0 {w W : World} {mb rb ob g pg ab bb x y z t : Nat} (hF : FrL w W mb rb ob g pg (L4 0 0 0 0)) (hX : W.heap[ab]? = some AxO) (hL : W.heap[bb]? = some (L4 x y z t)) {n3 : Nat} (hn : g ≠ mb ∧ g ≠ rb ∧ g ≠ pg ∧ w.heap.size ≤ g ∧ w.heap.size ≤ rb ∧ g < n3) (h2 : g ≠ ob) (h3 : g ≠ ab) (h4 : g ≠ bb) :
    (Builtin.copy_ #[32, 32] 3 #[.slice (some ⟨g, 0, none⟩) 4 4, .slice (some ⟨bb, 0, none⟩) 2 4]).run Try.prog W = .ok (.int .i64 2) (W.setRow g #[.float .f64 x, .float .f64 y, .float .f64 0, .float .f64 0]) ∧ FrL w (W.setRow g #[.float .f64 x, .float .f64 y, .float .f64 0, .float .f64 0]) mb rb ob g pg (L4 x y 0 0) ∧ (W.setRow g #[.float .f64 x, .float .f64 y, .float .f64 0, .float .f64 0]).heap[ab]? = some AxO ∧ (W.setRow g #[.float .f64 x, .float .f64 y, .float .f64 0, .float .f64 0]).heap[bb]? = some (L4 x y z t) := by
  obtain ⟨s0, s1, s2, s3, _⟩ := l4cells hL
  have hgg := hF.2.2.2.2.1
  unfold L4 at hgg
  refine ⟨?_, ⟨below_setRow hF.1 hn.2.2.2.1 _, (setRow_other _ _ _ _ (Ne.symm hn.1)).trans hF.2.1, (setRow_other _ _ _ _ (Ne.symm hn.2.1)).trans hF.2.2.1, (setRow_other _ _ _ _ (Ne.symm h2)).trans hF.2.2.2.1, setRow_heap _ _ _ _ _ _ hgg, (setRow_other _ _ _ _ (Ne.symm hn.2.2.1)).trans hF.2.2.2.2.2⟩, (setRow_other _ _ _ _ (Ne.symm h3)).trans hX, (setRow_other _ _ _ _ (Ne.symm h4)).trans hL⟩
  exact run_copy_row (P := Try.prog) W 32 32 3 38 g 0 4 4 ⟨bb, 0, none⟩ 2 4 #[.float .f64 0, .float .f64 0, .float .f64 0, .float .f64 0] 38 [.float .f64 x, .float .f64 y] Try.underlying32 (by kernel_rfl) hgg rfl (fun j v hj => by
    rw [Go.WideShapes.add_plain, Nat.zero_add]
    match j, hj with
    | 0, hj => simp at hj; subst hj; exact s0
    | 1, hj => simp at hj; subst hj; exact s1) (by simp) (by intro v hv; simp at hv; rcases hv with h | h <;> (rw [h]; rfl))
theorem copy_1 {w W : World} {mb rb ob g pg ab bb x y z t : Nat} (hF : FrL w W mb rb ob g pg (L4 x y 0 0)) (hX : W.heap[ab]? = some AxO) (hL : W.heap[bb]? = some (L4 x y z t)) {n3 : Nat} (hn : g ≠ mb ∧ g ≠ rb ∧ g ≠ pg ∧ w.heap.size ≤ g ∧ w.heap.size ≤ rb ∧ g < n3) (h2 : g ≠ ob) (h3 : g ≠ ab) (h4 : g ≠ bb) :
    (Builtin.copy_ #[32, 32] 3 #[.slice (some ⟨g, 2, none⟩) 2 2, .slice (some ⟨bb, 2, none⟩) 2 2]).run Try.prog W = .ok (.int .i64 2) (W.setRow g #[.float .f64 x, .float .f64 y, .float .f64 z, .float .f64 t]) ∧ FrL w (W.setRow g #[.float .f64 x, .float .f64 y, .float .f64 z, .float .f64 t]) mb rb ob g pg (L4 x y z t) ∧ (W.setRow g #[.float .f64 x, .float .f64 y, .float .f64 z, .float .f64 t]).heap[ab]? = some AxO ∧ (W.setRow g #[.float .f64 x, .float .f64 y, .float .f64 z, .float .f64 t]).heap[bb]? = some (L4 x y z t) := by
  obtain ⟨s0, s1, s2, s3, _⟩ := l4cells hL
  have hgg := hF.2.2.2.2.1
  unfold L4 at hgg
  refine ⟨?_, ⟨below_setRow hF.1 hn.2.2.2.1 _, (setRow_other _ _ _ _ (Ne.symm hn.1)).trans hF.2.1, (setRow_other _ _ _ _ (Ne.symm hn.2.1)).trans hF.2.2.1, (setRow_other _ _ _ _ (Ne.symm h2)).trans hF.2.2.2.1, setRow_heap _ _ _ _ _ _ hgg, (setRow_other _ _ _ _ (Ne.symm hn.2.2.1)).trans hF.2.2.2.2.2⟩, (setRow_other _ _ _ _ (Ne.symm h3)).trans hX, (setRow_other _ _ _ _ (Ne.symm h4)).trans hL⟩
  exact run_copy_row (P := Try.prog) W 32 32 3 38 g 2 2 2 ⟨bb, 2, none⟩ 2 2 #[.float .f64 x, .float .f64 y, .float .f64 0, .float .f64 0] 38 [.float .f64 z, .float .f64 t] Try.underlying32 (by kernel_rfl) hgg rfl (fun j v hj => by
    rw [Go.WideShapes.add_plain]
    match j, hj with
    | 0, hj => simp at hj; subst hj; exact s2
    | 1, hj => simp at hj; subst hj; exact s3) (by simp) (by intro v hv; simp at hv; rcases hv with h | h <;> (rw [h]; rfl))
set_option maxRecDepth 4000 in
set_option maxHeartbeats 8000000 in
theorem laidF (pg : Nat) (w : World) (hg : w.heap[pg]? = some (PBox 2 1 4613937818241073152 0)) : Calls Try.prog 17 #[.agg #[.slice (some ⟨pg, 0, none⟩) 1 1], .int .i64 2000000, .func (.func 18) #[] #[]] w fun e w' => (∃ g, e = .returned (.tuple #[.agg #[.int .i64 2, .int .i64 2, .slice (some ⟨g, 0, none⟩) 4 4], .int .i64 0]) ∧ w'.heap[g]? = some (L4 4607182418800017408 4611686018427387904 0 4607182418800017408)) ∧ Below w.heap.size w w' := by
  obtain ⟨t1, t2, t3, t4⟩ := two_b w (MoBox (some ⟨pg, 0, none⟩) 1 1) (MBox 0 0 none 0 0)
  have HDM := hid (fun W h => Dim_two pg W h)
  have HSE := hid Seconds_two
  have HZE := hid zeros_two
  have HAX := hid (fun W h => axes_two pg 4613937818241073152 0 W h)
  have HCF := hid chosenF_two
  have HPH := hid speedF_two
  have hst := fstoreM
  have hord : FloatKind.f64.format.order 4611686018427387904 0 = some .gt := by decide +kernel
  obtain ⟨V, hV⟩ : ∃ V, Hid ((w.alloc (MoBox (some ⟨pg, 0, none⟩) 1 1)).alloc (MBox 0 0 none 0 0) = V) := ⟨_, rfl⟩
  rw [hV.out] at t1 t2 t3 t4
  have hV' := hV.out
  have HB := hid t3
  have HR := hid t2
  have HM := hid t1
  have HP := hid (blkM hg t3)
  have c0 := mocell_of t1
  unfold MoBox MBox at hV'
  obtain ⟨mb, hmb⟩ : ∃ t, Hid (w.heap.size = t) := ⟨_, rfl⟩
  obtain ⟨rb, hrb⟩ : ∃ t, Hid (mb + 1 = t) := ⟨_, rfl⟩
  rw [hmb.out] at HR HM c0
  rw [hrb.out] at HR
  have hmb' := hmb.out
  have hrb' := hrb.out
  have HPL : Hid (pg < w.heap.size) := (Array.getElem?_eq_some_iff.1 hg).1
  clear t1 t2 t3 t4 hg
  go_enter Try.func17, Try.ntmps17
  go_wp2_with fail
  refine (HDM.out _ HP.out).mono ?_
  rintro e w1 ⟨rfl, hb⟩
  have HB1 := hid (HB.out.trans (hb.mono HB.out.size))
  have HR1 := hid (blkM HR.out hb)
  have HM1 := hid (blkM HM.out hb)
  have HP1 := hid (blkM HP.out hb)
  clear hb c0
  go_wp2_with fail
  refine (HSE.out _).mono ?_
  rintro e w2 ⟨rfl, hw⟩
  rw [hw]
  clear hw
  go_wp2_with fail
  refine (HZE.out _).mono ?_
  rintro e w3 ⟨rfl, hrow, hb⟩
  have HG3 := hid hrow
  have HB3 := hid (HB1.out.trans (hb.mono HB1.out.size))
  have HR3 := hid (blkM HR1.out hb)
  have HM3 := hid (blkM HM1.out hb)
  have HP3 := hid (blkM HP1.out hb)
  obtain ⟨g, hgg⟩ : ∃ t, Hid (w1.heap.size + 1 = t) := ⟨_, rfl⟩
  rw [hgg.out] at HG3
  have hgg' := hgg.out
  have HNE : Hid (g ≠ mb ∧ g ≠ rb ∧ g ≠ pg ∧ w.heap.size ≤ g ∧ w.heap.size ≤ rb ∧ g < w3.heap.size) := by
    have e1 := (Array.getElem?_eq_some_iff.1 HR1.out).1; have e2 := hgg.out; have e3 := (Array.getElem?_eq_some_iff.1 HM1.out).1; have e4 := HPL.out; have e5 := HB1.out.size; have e6 := hrb.out; have e7 := hmb.out; have e8 := (Array.getElem?_eq_some_iff.1 HG3.out).1
    show _ ∧ _ ∧ _ ∧ _ ∧ _ ∧ _
    omega
  have hal : Below w3.heap.size w3 (w3.alloc (MBox 2 2 (some ⟨g, 0, none⟩) 4 4)) := (Below.refl _ _).alloc (Nat.le_refl _) _
  have HF4 : Hid (FrL w (w3.alloc (MBox 2 2 (some ⟨g, 0, none⟩) 4 4)) mb rb w3.heap.size g pg (L4 0 0 0 0)) := ⟨HB3.out.trans (hal.mono HB3.out.size), blkM HM3.out hal, blkM HR3.out hal, nblkM _ _, blkM HG3.out hal, blkM HP3.out hal⟩
  obtain ⟨V4, hV4⟩ : ∃ V, Hid (w3.alloc (MBox 2 2 (some ⟨g, 0, none⟩) 4 4) = V) := ⟨_, rfl⟩
  rw [hV4.out] at HF4
  have hV4' := hV4.out
  unfold MBox at hV4'
  obtain ⟨ob, hob⟩ : ∃ t, Hid (w3.heap.size = t) := ⟨_, rfl⟩
  rw [hob.out] at HF4
  have hob' := hob.out
  have HNE2 : Hid (g ≠ ob) := by have := HNE.out.2.2.2.2.2; have := hob.out; show g ≠ ob; omega
  have c0 := mocell_of HF4.out.2.1
  clear hrow hb hal
  go_wp2_with fail
  refine (HAX.out _ HF4.out.2.2.2.2.2).mono ?_
  rintro e w5 ⟨⟨v, rfl, hown⟩, hb⟩
  have HF5 := hid (HF4.out.call hb)
  rcases Joins.ownsRow_forms hown with ⟨_, h0⟩ | ⟨ax, acap, rfl⟩
  · exact absurd h0 (by decide)
  have HA5 := hid (ax_own hown)
  have HG5 : Hid (g < w5.heap.size) := (Array.getElem?_eq_some_iff.1 HF5.out.2.2.2.2.1).1
  clear hb hown c0
  go_wp2_with fail
  go_loopw [44] (fun iv wr => ((iv = .int .i64 0 ∧ Hid (wr = w5)) ∨ (iv = .int .i64 1 ∧ Hid (FrL w wr mb rb ob g pg (L4 4607182418800017408 4611686018427387904 0 4607182418800017408))))) (fun iv _ => 1 - (intOf iv).toNat)
  case atStart => exact Or.inl ⟨rfl, rfl⟩
  case round =>
    obtain ⟨rfl, hw⟩ | ⟨rfl, HFE⟩ := hrel
    · rw [hw.out]
      clear hw
      have hax := HA5.out.1
      unfold AxC at hax
      obtain ⟨x0, x1, x2, x3, x4, x5, x6⟩ := hax
      have hal : Below w5.heap.size w5 (w5.alloc AxO) := (Below.refl _ _).alloc (Nat.le_refl _) _
      have HF6 := hid (HF5.out.call hal)
      have HX6 : Hid ((w5.alloc AxO).heap[w5.heap.size]? = some AxO) := nblkM _ _
      obtain ⟨V6, hV6⟩ : ∃ V, Hid (w5.alloc AxO = V) := ⟨_, rfl⟩
      rw [hV6.out] at HF6 HX6
      have hV6' := hV6.out
      unfold AxO at hV6'
      obtain ⟨ab, hab⟩ : ∃ t, Hid (w5.heap.size = t) := ⟨_, rfl⟩
      rw [hab.out] at HX6
      have hab' := hab.out
      have HNA : Hid (g ≠ ab) := by have := HG5.out; have := hab.out; show g ≠ ab; omega
      have HSS : Hid (∀ W, FrL w W mb rb ob g pg (L4 0 0 0 0) → W.heap[ab]? = some AxO → ((W.cell? ⟨ab, 0, none⟩ = some (.int .i64 0) ∧ W.cell? ⟨ab, 3, none⟩ = some (.int .i64 2) ∧ W.cell? ⟨ab, 4, none⟩ = some (.func (.func 27) #[] #[]) ∧ W.cell? ⟨ab, 5, none⟩ = some (.func (.func 28) #[] #[]) ∧ W.cell? ⟨ab, 6, none⟩ = some (.func (.func 29) #[] #[])) ∧ W.cell? ⟨mb, 0, none⟩ = some (.slice (some ⟨pg, 0, none⟩) 1 1) ∧ (W.cell? ⟨pg, 0, none⟩ = some (.int .i64 2) ∧ W.cell? ⟨pg, 1, none⟩ = some (.int .i64 1) ∧ W.cell? ⟨pg, 2, none⟩ = some (.float .f64 4613937818241073152) ∧ W.cell? ⟨pg, 3, none⟩ = some (.float .f64 0)))) := fun W h1 h2 => by
        have a := axcells_of h2
        unfold AxC at a
        exact ⟨⟨a.1, a.2.2.2⟩, mocell_of h1.2.1, ptcells_of h1.2.2.2.2.2⟩
      have HFD := hid HF6.out.drew
      have HXD : Hid (V6.drew.heap[ab]? = some AxO) := HX6.out
      clear hal
      go_wp2_with fail
      refine wp_region_held_drew (S := fun W => ((W.cell? ⟨ab, 0, none⟩ = some (.int .i64 0) ∧ W.cell? ⟨ab, 3, none⟩ = some (.int .i64 2) ∧ W.cell? ⟨ab, 4, none⟩ = some (.func (.func 27) #[] #[]) ∧ W.cell? ⟨ab, 5, none⟩ = some (.func (.func 28) #[] #[]) ∧ W.cell? ⟨ab, 6, none⟩ = some (.func (.func 29) #[] #[])) ∧ W.cell? ⟨mb, 0, none⟩ = some (.slice (some ⟨pg, 0, none⟩) 1 1) ∧ (W.cell? ⟨pg, 0, none⟩ = some (.int .i64 2) ∧ W.cell? ⟨pg, 1, none⟩ = some (.int .i64 1) ∧ W.cell? ⟨pg, 2, none⟩ = some (.float .f64 4613937818241073152) ∧ W.cell? ⟨pg, 3, none⟩ = some (.float .f64 0)))) (by kernel_rfl) (HSS.out _ HFD.out HXD.out) (fun hHeld => ?_)
      refine take_at 0 48 (.func (.func 18) #[] #[]) rfl rfl (by kernel_rfl) (by kernel_rfl) (by kernel_rfl) (fun _ _ _ h => h) (Or.inl ⟨by rfl, fun w hSw => by (try dsimp only at hSw); go_simp⟩) (by assumption) ?_
      simp only [Act.put, List.setIfInBounds_toArray, List.set_cons_zero, List.set_cons_succ]
      refine take_at 1 49 (.pointer (some ⟨ab, 3, none⟩)) rfl rfl (by kernel_rfl) (by kernel_rfl) (by kernel_rfl) (fun _ _ _ h => h) (Or.inl ⟨by rfl, fun w hSw => by (try dsimp only at hSw); go_simp⟩) (by assumption) ?_
      simp only [Act.put, List.setIfInBounds_toArray, List.set_cons_zero, List.set_cons_succ]
      refine take_at 2 50 (.agg #[.int .i64 2, .func (.func 27) #[] #[], .func (.func 28) #[] #[], .func (.func 29) #[] #[]]) rfl rfl (by kernel_rfl) (by kernel_rfl) (by kernel_rfl) (fun _ _ _ h => h) (Or.inl ⟨by rfl, fun w hSw => by (try dsimp only at hSw); go_simp⟩) (by assumption) ?_
      simp only [Act.put, List.setIfInBounds_toArray, List.set_cons_zero, List.set_cons_succ]
      refine take_at 4 52 (.pointer (some ⟨mb, 0, none⟩)) rfl rfl (by kernel_rfl) (by kernel_rfl) (by kernel_rfl) (fun _ _ _ h => h) (Or.inl ⟨by rfl, fun w hSw => by (try dsimp only at hSw); go_simp⟩) (by assumption) ?_
      simp only [Act.put, List.setIfInBounds_toArray, List.set_cons_zero, List.set_cons_succ]
      refine take_at 5 53 (.slice (some ⟨pg, 0, none⟩) 1 1) rfl rfl (by kernel_rfl) (by kernel_rfl) (by kernel_rfl) (fun _ _ _ h => h) (Or.inl ⟨by rfl, fun w hSw => by (try dsimp only at hSw); go_simp⟩) (by assumption) ?_
      simp only [Act.put, List.setIfInBounds_toArray, List.set_cons_zero, List.set_cons_succ]
      refine take_at 6 54 (.pointer (some ⟨ab, 0, none⟩)) rfl rfl (by kernel_rfl) (by kernel_rfl) (by kernel_rfl) (fun _ _ _ h => h) (Or.inl ⟨by rfl, fun w hSw => by (try dsimp only at hSw); go_simp⟩) (by assumption) ?_
      simp only [Act.put, List.setIfInBounds_toArray, List.set_cons_zero, List.set_cons_succ]
      refine take_at 7 55 (.int .i64 0) rfl rfl (by kernel_rfl) (by kernel_rfl) (by kernel_rfl) (fun _ _ _ h => h) (Or.inl ⟨by rfl, fun w hSw => by (try dsimp only at hSw); go_simp⟩) (by assumption) ?_
      simp only [Act.put, List.setIfInBounds_toArray, List.set_cons_zero, List.set_cons_succ]
      refine take_at 8 56 (.pointer (some ⟨pg, 0, none⟩)) rfl rfl (by kernel_rfl) (by kernel_rfl) (by kernel_rfl) (fun _ _ _ h => h) (Or.inl ⟨by rfl, fun w hSw => by (try dsimp only at hSw); go_simp⟩) (by assumption) ?_
      simp only [Act.put, List.setIfInBounds_toArray, List.set_cons_zero, List.set_cons_succ]
      refine take_at 9 57 (.agg #[.int .i64 2, .int .i64 1, .float .f64 4613937818241073152, .float .f64 0]) rfl rfl (by kernel_rfl) (by kernel_rfl) (by kernel_rfl) (fun _ _ _ h => h) (Or.inl ⟨by rfl, fun w hSw => by (try dsimp only at hSw); go_simp⟩) (by assumption) ?_
      simp only [Act.put, List.setIfInBounds_toArray, List.set_cons_zero, List.set_cons_succ]
      refine take_at 10 58 (.float .f64 4611686018427387904) rfl rfl (by kernel_rfl) (by kernel_rfl) (by kernel_rfl) (fun _ _ _ h => h) (Or.inl ⟨by rfl, fun w hSw => by (try dsimp only at hSw); go_simp⟩) (by assumption) ?_
      simp only [Act.put, List.setIfInBounds_toArray, List.set_cons_zero, List.set_cons_succ]
      refine wpAnyH_ready (rs := [3]) (by kernel_rfl) (by simp) ?_
      refine AllReadyH.cons (o := _) rfl (fun K' hK => ?_) AllReadyH.nil
      go_simp
      refine (HCF.out _).mono ?_
      rintro e u1 ⟨rfl, hb⟩
      have HF7 := hid (HFD.out.call hb)
      have HX7 := hid (blkM HXD.out hb)
      clear hb
      go_wp2_with fail
      refine hK.out _ _ (HSS.out _ HF7.out HX7.out) (fun hHeld1 => ?_)
      clear hK K'
      try simp only [Act.put, List.setIfInBounds_toArray, List.set_cons_zero, List.set_cons_succ]
      refine wpAnyH_ready (rs := [11]) (by kernel_rfl) (by simp) ?_
      refine AllReadyH.cons (o := _) rfl (fun K' hK => ?_) AllReadyH.nil
      go_simp
      refine (HPH.out _).mono ?_
      rintro e u2 ⟨rfl, hl4, hb⟩
      have HF8 := hid (HF7.out.call hb)
      have HX8 := hid (blkM HX7.out hb)
      have HL8 := hid hl4
      have HG8 : Hid (g ≠ u1.heap.size + 1) := by have := (Array.getElem?_eq_some_iff.1 HF7.out.2.2.2.2.1).1; show g ≠ u1.heap.size + 1; omega
      obtain ⟨bb, hbb⟩ : ∃ t, Hid (u1.heap.size + 1 = t) := ⟨_, rfl⟩
      rw [hbb.out] at HL8 HG8
      have hbb' := hbb.out
      clear hb hl4
      go_wp2_with fail
      refine hK.out _ _ (HSS.out _ HF8.out HX8.out) (fun hHeld2 => ?_)
      clear hK K'
      try simp only [Act.put, List.setIfInBounds_toArray, List.set_cons_zero, List.set_cons_succ]
      refine take_at 12 14 (.slice (some ⟨bb, 0, none⟩) 4 4) rfl rfl (by kernel_rfl) (by kernel_rfl) (by kernel_rfl) (fun _ _ _ h => h) (Or.inl ⟨by rfl, fun w hSw => by (try dsimp only at hSw); go_simp⟩) (by assumption) ?_
      simp only [Act.put, List.setIfInBounds_toArray, List.set_cons_zero, List.set_cons_succ]
      refine wpAnyH_done (by kernel_rfl) ?_ _
      have a8 := axcells_of HX8.out
      unfold AxC at a8
      obtain ⟨y0, y1, y2, y3, y4, y5, y6⟩ := a8
      go_wp2_with fail
      clear y0 y1 y2 y3 y4 y5 y6
      go_loopw [63] (fun jv wi => ((jv = .int .i64 0 ∧ Hid (FrL w wi mb rb ob g pg (L4 0 0 0 0))) ∨ (jv = .int .i64 1 ∧ Hid (FrL w wi mb rb ob g pg (L4 4607182418800017408 4611686018427387904 0 0))) ∨ (jv = .int .i64 2 ∧ Hid (FrL w wi mb rb ob g pg (L4 4607182418800017408 4611686018427387904 0 4607182418800017408)))) ∧ Hid (wi.heap[ab]? = some AxO) ∧ Hid (wi.heap[bb]? = some (L4 4607182418800017408 4611686018427387904 0 4607182418800017408))) (fun jv _ => 2 - (intOf jv).toNat)
      case atStart => exact ⟨Or.inl ⟨rfl, HF8⟩, HX8, HL8⟩
      case round =>
        obtain ⟨⟨rfl, HFI⟩ | ⟨rfl, HFI⟩ | ⟨rfl, HFI⟩, HXI, HLI⟩ := hrel
        · have a8 := axcells_of HXI.out
          unfold AxC at a8
          obtain ⟨y0, y1, y2, y3, y4, y5, y6⟩ := a8
          obtain ⟨z0, z1, z2⟩ := mcells_of HFI.out.2.2.2.1
          obtain ⟨s0, s1, s2, s3, sf⟩ := l4cells HLI.out
          obtain ⟨o0, o1, o2, o3, of⟩ := l4cells HFI.out.2.2.2.2.1
          obtain ⟨hcp, HFN, HXN, HLN⟩ := copy_0 HFI.out HXI.out HLI.out HNE.out HNE2.out HNA.out HG8.out
          have HFN' := hid HFN
          have HXN' := hid HXN
          have HLN' := hid HLN
          clear HFN HXN HLN o0 o1 o2 o3 of s0 s1 s2 s3 sf
          go_wp2_with fail
          go_roundw
          case rel => exact ⟨Or.inr (Or.inl ⟨by go_num, HFN'⟩), HXN', HLN'⟩
          case measure => simp [intOf]
        · have a8 := axcells_of HXI.out
          unfold AxC at a8
          obtain ⟨y0, y1, y2, y3, y4, y5, y6⟩ := a8
          obtain ⟨z0, z1, z2⟩ := mcells_of HFI.out.2.2.2.1
          obtain ⟨s0, s1, s2, s3, sf⟩ := l4cells HLI.out
          obtain ⟨o0, o1, o2, o3, of⟩ := l4cells HFI.out.2.2.2.2.1
          obtain ⟨hcp, HFN, HXN, HLN⟩ := copy_1 HFI.out HXI.out HLI.out HNE.out HNE2.out HNA.out HG8.out
          have HFN' := hid HFN
          have HXN' := hid HXN
          have HLN' := hid HLN
          clear HFN HXN HLN o0 o1 o2 o3 of s0 s1 s2 s3 sf
          go_wp2_with fail
          go_roundw
          case rel => exact ⟨Or.inr (Or.inr ⟨by go_num, HFN'⟩), HXN', HLN'⟩
          case measure => simp [intOf]
        · have a8 := axcells_of HXI.out
          go_wp2_with fail
          go_roundw
          case rel => exact Or.inr ⟨by go_num, HFI⟩
          case measure => simp [intOf]
    · obtain ⟨z0, z1, z2⟩ := mcells_of HFE.out.2.2.2.1
      obtain ⟨r0, r1, r2⟩ := mcells_of HFE.out.2.2.1
      have fz := frzM HFE.out.2.2.1
      have hrbl := HNE.out.2.2.2.2.1
      go_wp2_with fail
      refine bodyPost_ret (v := .tuple #[.agg #[.int .i64 2, .int .i64 2, .slice (some ⟨g, 0, none⟩) 4 4], .int .i64 0]) (by simp [results, Try.results17, go_sem, r0, r1, r2]) rfl ⟨⟨g, rfl, ?_⟩, ?_⟩
      · exact (StoM.keep HNE.out.2.1).trans HFE.out.2.2.2.2.1
      · have := StoM.below (r := 2) (c := 2) (sa := some ⟨g, 0, none⟩) (n := 4) (cap := 4) HFE.out.1 hrbl
        first | exact this | (rw [hmb'] at this; exact this)
set_option maxRecDepth 4000 in
set_option maxHeartbeats 8000000 in
theorem laidQ (pg : Nat) (w : World) (hg : w.heap[pg]? = some (PBox 2 1 4613937818241073152 0)) : Calls Try.prog 17 #[.agg #[.slice (some ⟨pg, 0, none⟩) 1 1], .int .i64 2000000, .func (.func 19) #[] #[]] w fun e w' => (∃ g, e = .returned (.tuple #[.agg #[.int .i64 2, .int .i64 2, .slice (some ⟨g, 0, none⟩) 4 4], .int .i64 0]) ∧ w'.heap[g]? = some (L4 4620693217682128896 4618441417868443648 4618441417868443648 4618441417868443648)) ∧ Below w.heap.size w w' := by
  obtain ⟨t1, t2, t3, t4⟩ := two_b w (MoBox (some ⟨pg, 0, none⟩) 1 1) (MBox 0 0 none 0 0)
  have HDM := hid (fun W h => Dim_two pg W h)
  have HSE := hid Seconds_two
  have HZE := hid zeros_two
  have HAX := hid (fun W h => axes_two pg 4613937818241073152 0 W h)
  have HCF := hid chosenQ_two
  have HPH := hid speedQ_two
  have hst := fstoreM
  have hord : FloatKind.f64.format.order 4611686018427387904 0 = some .gt := by decide +kernel
  obtain ⟨V, hV⟩ : ∃ V, Hid ((w.alloc (MoBox (some ⟨pg, 0, none⟩) 1 1)).alloc (MBox 0 0 none 0 0) = V) := ⟨_, rfl⟩
  rw [hV.out] at t1 t2 t3 t4
  have hV' := hV.out
  have HB := hid t3
  have HR := hid t2
  have HM := hid t1
  have HP := hid (blkM hg t3)
  have c0 := mocell_of t1
  unfold MoBox MBox at hV'
  obtain ⟨mb, hmb⟩ : ∃ t, Hid (w.heap.size = t) := ⟨_, rfl⟩
  obtain ⟨rb, hrb⟩ : ∃ t, Hid (mb + 1 = t) := ⟨_, rfl⟩
  rw [hmb.out] at HR HM c0
  rw [hrb.out] at HR
  have hmb' := hmb.out
  have hrb' := hrb.out
  have HPL : Hid (pg < w.heap.size) := (Array.getElem?_eq_some_iff.1 hg).1
  clear t1 t2 t3 t4 hg
  go_enter Try.func17, Try.ntmps17
  go_wp2_with fail
  refine (HDM.out _ HP.out).mono ?_
  rintro e w1 ⟨rfl, hb⟩
  have HB1 := hid (HB.out.trans (hb.mono HB.out.size))
  have HR1 := hid (blkM HR.out hb)
  have HM1 := hid (blkM HM.out hb)
  have HP1 := hid (blkM HP.out hb)
  clear hb c0
  go_wp2_with fail
  refine (HSE.out _).mono ?_
  rintro e w2 ⟨rfl, hw⟩
  rw [hw]
  clear hw
  go_wp2_with fail
  refine (HZE.out _).mono ?_
  rintro e w3 ⟨rfl, hrow, hb⟩
  have HG3 := hid hrow
  have HB3 := hid (HB1.out.trans (hb.mono HB1.out.size))
  have HR3 := hid (blkM HR1.out hb)
  have HM3 := hid (blkM HM1.out hb)
  have HP3 := hid (blkM HP1.out hb)
  obtain ⟨g, hgg⟩ : ∃ t, Hid (w1.heap.size + 1 = t) := ⟨_, rfl⟩
  rw [hgg.out] at HG3
  have hgg' := hgg.out
  have HNE : Hid (g ≠ mb ∧ g ≠ rb ∧ g ≠ pg ∧ w.heap.size ≤ g ∧ w.heap.size ≤ rb ∧ g < w3.heap.size) := by
    have e1 := (Array.getElem?_eq_some_iff.1 HR1.out).1; have e2 := hgg.out; have e3 := (Array.getElem?_eq_some_iff.1 HM1.out).1; have e4 := HPL.out; have e5 := HB1.out.size; have e6 := hrb.out; have e7 := hmb.out; have e8 := (Array.getElem?_eq_some_iff.1 HG3.out).1
    show _ ∧ _ ∧ _ ∧ _ ∧ _ ∧ _
    omega
  have hal : Below w3.heap.size w3 (w3.alloc (MBox 2 2 (some ⟨g, 0, none⟩) 4 4)) := (Below.refl _ _).alloc (Nat.le_refl _) _
  have HF4 : Hid (FrL w (w3.alloc (MBox 2 2 (some ⟨g, 0, none⟩) 4 4)) mb rb w3.heap.size g pg (L4 0 0 0 0)) := ⟨HB3.out.trans (hal.mono HB3.out.size), blkM HM3.out hal, blkM HR3.out hal, nblkM _ _, blkM HG3.out hal, blkM HP3.out hal⟩
  obtain ⟨V4, hV4⟩ : ∃ V, Hid (w3.alloc (MBox 2 2 (some ⟨g, 0, none⟩) 4 4) = V) := ⟨_, rfl⟩
  rw [hV4.out] at HF4
  have hV4' := hV4.out
  unfold MBox at hV4'
  obtain ⟨ob, hob⟩ : ∃ t, Hid (w3.heap.size = t) := ⟨_, rfl⟩
  rw [hob.out] at HF4
  have hob' := hob.out
  have HNE2 : Hid (g ≠ ob) := by have := HNE.out.2.2.2.2.2; have := hob.out; show g ≠ ob; omega
  have c0 := mocell_of HF4.out.2.1
  clear hrow hb hal
  go_wp2_with fail
  refine (HAX.out _ HF4.out.2.2.2.2.2).mono ?_
  rintro e w5 ⟨⟨v, rfl, hown⟩, hb⟩
  have HF5 := hid (HF4.out.call hb)
  rcases Joins.ownsRow_forms hown with ⟨_, h0⟩ | ⟨ax, acap, rfl⟩
  · exact absurd h0 (by decide)
  have HA5 := hid (ax_own hown)
  have HG5 : Hid (g < w5.heap.size) := (Array.getElem?_eq_some_iff.1 HF5.out.2.2.2.2.1).1
  clear hb hown c0
  go_wp2_with fail
  go_loopw [44] (fun iv wr => ((iv = .int .i64 0 ∧ Hid (wr = w5)) ∨ (iv = .int .i64 1 ∧ Hid (FrL w wr mb rb ob g pg (L4 4620693217682128896 4618441417868443648 4618441417868443648 4618441417868443648))))) (fun iv _ => 1 - (intOf iv).toNat)
  case atStart => exact Or.inl ⟨rfl, rfl⟩
  case round =>
    obtain ⟨rfl, hw⟩ | ⟨rfl, HFE⟩ := hrel
    · rw [hw.out]
      clear hw
      have hax := HA5.out.1
      unfold AxC at hax
      obtain ⟨x0, x1, x2, x3, x4, x5, x6⟩ := hax
      have hal : Below w5.heap.size w5 (w5.alloc AxO) := (Below.refl _ _).alloc (Nat.le_refl _) _
      have HF6 := hid (HF5.out.call hal)
      have HX6 : Hid ((w5.alloc AxO).heap[w5.heap.size]? = some AxO) := nblkM _ _
      obtain ⟨V6, hV6⟩ : ∃ V, Hid (w5.alloc AxO = V) := ⟨_, rfl⟩
      rw [hV6.out] at HF6 HX6
      have hV6' := hV6.out
      unfold AxO at hV6'
      obtain ⟨ab, hab⟩ : ∃ t, Hid (w5.heap.size = t) := ⟨_, rfl⟩
      rw [hab.out] at HX6
      have hab' := hab.out
      have HNA : Hid (g ≠ ab) := by have := HG5.out; have := hab.out; show g ≠ ab; omega
      have HSS : Hid (∀ W, FrL w W mb rb ob g pg (L4 0 0 0 0) → W.heap[ab]? = some AxO → ((W.cell? ⟨ab, 0, none⟩ = some (.int .i64 0) ∧ W.cell? ⟨ab, 3, none⟩ = some (.int .i64 2) ∧ W.cell? ⟨ab, 4, none⟩ = some (.func (.func 27) #[] #[]) ∧ W.cell? ⟨ab, 5, none⟩ = some (.func (.func 28) #[] #[]) ∧ W.cell? ⟨ab, 6, none⟩ = some (.func (.func 29) #[] #[])) ∧ W.cell? ⟨mb, 0, none⟩ = some (.slice (some ⟨pg, 0, none⟩) 1 1) ∧ (W.cell? ⟨pg, 0, none⟩ = some (.int .i64 2) ∧ W.cell? ⟨pg, 1, none⟩ = some (.int .i64 1) ∧ W.cell? ⟨pg, 2, none⟩ = some (.float .f64 4613937818241073152) ∧ W.cell? ⟨pg, 3, none⟩ = some (.float .f64 0)))) := fun W h1 h2 => by
        have a := axcells_of h2
        unfold AxC at a
        exact ⟨⟨a.1, a.2.2.2⟩, mocell_of h1.2.1, ptcells_of h1.2.2.2.2.2⟩
      have HFD := hid HF6.out.drew
      have HXD : Hid (V6.drew.heap[ab]? = some AxO) := HX6.out
      clear hal
      go_wp2_with fail
      refine wp_region_held_drew (S := fun W => ((W.cell? ⟨ab, 0, none⟩ = some (.int .i64 0) ∧ W.cell? ⟨ab, 3, none⟩ = some (.int .i64 2) ∧ W.cell? ⟨ab, 4, none⟩ = some (.func (.func 27) #[] #[]) ∧ W.cell? ⟨ab, 5, none⟩ = some (.func (.func 28) #[] #[]) ∧ W.cell? ⟨ab, 6, none⟩ = some (.func (.func 29) #[] #[])) ∧ W.cell? ⟨mb, 0, none⟩ = some (.slice (some ⟨pg, 0, none⟩) 1 1) ∧ (W.cell? ⟨pg, 0, none⟩ = some (.int .i64 2) ∧ W.cell? ⟨pg, 1, none⟩ = some (.int .i64 1) ∧ W.cell? ⟨pg, 2, none⟩ = some (.float .f64 4613937818241073152) ∧ W.cell? ⟨pg, 3, none⟩ = some (.float .f64 0)))) (by kernel_rfl) (HSS.out _ HFD.out HXD.out) (fun hHeld => ?_)
      refine take_at 0 48 (.func (.func 19) #[] #[]) rfl rfl (by kernel_rfl) (by kernel_rfl) (by kernel_rfl) (fun _ _ _ h => h) (Or.inl ⟨by rfl, fun w hSw => by (try dsimp only at hSw); go_simp⟩) (by assumption) ?_
      simp only [Act.put, List.setIfInBounds_toArray, List.set_cons_zero, List.set_cons_succ]
      refine take_at 1 49 (.pointer (some ⟨ab, 3, none⟩)) rfl rfl (by kernel_rfl) (by kernel_rfl) (by kernel_rfl) (fun _ _ _ h => h) (Or.inl ⟨by rfl, fun w hSw => by (try dsimp only at hSw); go_simp⟩) (by assumption) ?_
      simp only [Act.put, List.setIfInBounds_toArray, List.set_cons_zero, List.set_cons_succ]
      refine take_at 2 50 (.agg #[.int .i64 2, .func (.func 27) #[] #[], .func (.func 28) #[] #[], .func (.func 29) #[] #[]]) rfl rfl (by kernel_rfl) (by kernel_rfl) (by kernel_rfl) (fun _ _ _ h => h) (Or.inl ⟨by rfl, fun w hSw => by (try dsimp only at hSw); go_simp⟩) (by assumption) ?_
      simp only [Act.put, List.setIfInBounds_toArray, List.set_cons_zero, List.set_cons_succ]
      refine take_at 4 52 (.pointer (some ⟨mb, 0, none⟩)) rfl rfl (by kernel_rfl) (by kernel_rfl) (by kernel_rfl) (fun _ _ _ h => h) (Or.inl ⟨by rfl, fun w hSw => by (try dsimp only at hSw); go_simp⟩) (by assumption) ?_
      simp only [Act.put, List.setIfInBounds_toArray, List.set_cons_zero, List.set_cons_succ]
      refine take_at 5 53 (.slice (some ⟨pg, 0, none⟩) 1 1) rfl rfl (by kernel_rfl) (by kernel_rfl) (by kernel_rfl) (fun _ _ _ h => h) (Or.inl ⟨by rfl, fun w hSw => by (try dsimp only at hSw); go_simp⟩) (by assumption) ?_
      simp only [Act.put, List.setIfInBounds_toArray, List.set_cons_zero, List.set_cons_succ]
      refine take_at 6 54 (.pointer (some ⟨ab, 0, none⟩)) rfl rfl (by kernel_rfl) (by kernel_rfl) (by kernel_rfl) (fun _ _ _ h => h) (Or.inl ⟨by rfl, fun w hSw => by (try dsimp only at hSw); go_simp⟩) (by assumption) ?_
      simp only [Act.put, List.setIfInBounds_toArray, List.set_cons_zero, List.set_cons_succ]
      refine take_at 7 55 (.int .i64 0) rfl rfl (by kernel_rfl) (by kernel_rfl) (by kernel_rfl) (fun _ _ _ h => h) (Or.inl ⟨by rfl, fun w hSw => by (try dsimp only at hSw); go_simp⟩) (by assumption) ?_
      simp only [Act.put, List.setIfInBounds_toArray, List.set_cons_zero, List.set_cons_succ]
      refine take_at 8 56 (.pointer (some ⟨pg, 0, none⟩)) rfl rfl (by kernel_rfl) (by kernel_rfl) (by kernel_rfl) (fun _ _ _ h => h) (Or.inl ⟨by rfl, fun w hSw => by (try dsimp only at hSw); go_simp⟩) (by assumption) ?_
      simp only [Act.put, List.setIfInBounds_toArray, List.set_cons_zero, List.set_cons_succ]
      refine take_at 9 57 (.agg #[.int .i64 2, .int .i64 1, .float .f64 4613937818241073152, .float .f64 0]) rfl rfl (by kernel_rfl) (by kernel_rfl) (by kernel_rfl) (fun _ _ _ h => h) (Or.inl ⟨by rfl, fun w hSw => by (try dsimp only at hSw); go_simp⟩) (by assumption) ?_
      simp only [Act.put, List.setIfInBounds_toArray, List.set_cons_zero, List.set_cons_succ]
      refine take_at 10 58 (.float .f64 4611686018427387904) rfl rfl (by kernel_rfl) (by kernel_rfl) (by kernel_rfl) (fun _ _ _ h => h) (Or.inl ⟨by rfl, fun w hSw => by (try dsimp only at hSw); go_simp⟩) (by assumption) ?_
      simp only [Act.put, List.setIfInBounds_toArray, List.set_cons_zero, List.set_cons_succ]
      refine wpAnyH_ready (rs := [3]) (by kernel_rfl) (by simp) ?_
      refine AllReadyH.cons (o := _) rfl (fun K' hK => ?_) AllReadyH.nil
      go_simp
      refine (HCF.out _).mono ?_
      rintro e u1 ⟨rfl, hb⟩
      have HF7 := hid (HFD.out.call hb)
      have HX7 := hid (blkM HXD.out hb)
      clear hb
      go_wp2_with fail
      refine hK.out _ _ (HSS.out _ HF7.out HX7.out) (fun hHeld1 => ?_)
      clear hK K'
      try simp only [Act.put, List.setIfInBounds_toArray, List.set_cons_zero, List.set_cons_succ]
      refine wpAnyH_ready (rs := [11]) (by kernel_rfl) (by simp) ?_
      refine AllReadyH.cons (o := _) rfl (fun K' hK => ?_) AllReadyH.nil
      go_simp
      refine (HPH.out _).mono ?_
      rintro e u2 ⟨rfl, hl4, hb⟩
      have HF8 := hid (HF7.out.call hb)
      have HX8 := hid (blkM HX7.out hb)
      have HL8 := hid hl4
      have HG8 : Hid (g ≠ u1.heap.size + 1) := by have := (Array.getElem?_eq_some_iff.1 HF7.out.2.2.2.2.1).1; show g ≠ u1.heap.size + 1; omega
      obtain ⟨bb, hbb⟩ : ∃ t, Hid (u1.heap.size + 1 = t) := ⟨_, rfl⟩
      rw [hbb.out] at HL8 HG8
      have hbb' := hbb.out
      clear hb hl4
      go_wp2_with fail
      refine hK.out _ _ (HSS.out _ HF8.out HX8.out) (fun hHeld2 => ?_)
      clear hK K'
      try simp only [Act.put, List.setIfInBounds_toArray, List.set_cons_zero, List.set_cons_succ]
      refine take_at 12 14 (.slice (some ⟨bb, 0, none⟩) 4 4) rfl rfl (by kernel_rfl) (by kernel_rfl) (by kernel_rfl) (fun _ _ _ h => h) (Or.inl ⟨by rfl, fun w hSw => by (try dsimp only at hSw); go_simp⟩) (by assumption) ?_
      simp only [Act.put, List.setIfInBounds_toArray, List.set_cons_zero, List.set_cons_succ]
      refine wpAnyH_done (by kernel_rfl) ?_ _
      have a8 := axcells_of HX8.out
      unfold AxC at a8
      obtain ⟨y0, y1, y2, y3, y4, y5, y6⟩ := a8
      go_wp2_with fail
      clear y0 y1 y2 y3 y4 y5 y6
      go_loopw [63] (fun jv wi => ((jv = .int .i64 0 ∧ Hid (FrL w wi mb rb ob g pg (L4 0 0 0 0))) ∨ (jv = .int .i64 1 ∧ Hid (FrL w wi mb rb ob g pg (L4 4620693217682128896 4618441417868443648 0 0))) ∨ (jv = .int .i64 2 ∧ Hid (FrL w wi mb rb ob g pg (L4 4620693217682128896 4618441417868443648 4618441417868443648 4618441417868443648)))) ∧ Hid (wi.heap[ab]? = some AxO) ∧ Hid (wi.heap[bb]? = some (L4 4620693217682128896 4618441417868443648 4618441417868443648 4618441417868443648))) (fun jv _ => 2 - (intOf jv).toNat)
      case atStart => exact ⟨Or.inl ⟨rfl, HF8⟩, HX8, HL8⟩
      case round =>
        obtain ⟨⟨rfl, HFI⟩ | ⟨rfl, HFI⟩ | ⟨rfl, HFI⟩, HXI, HLI⟩ := hrel
        · have a8 := axcells_of HXI.out
          unfold AxC at a8
          obtain ⟨y0, y1, y2, y3, y4, y5, y6⟩ := a8
          obtain ⟨z0, z1, z2⟩ := mcells_of HFI.out.2.2.2.1
          obtain ⟨s0, s1, s2, s3, sf⟩ := l4cells HLI.out
          obtain ⟨o0, o1, o2, o3, of⟩ := l4cells HFI.out.2.2.2.2.1
          obtain ⟨hcp, HFN, HXN, HLN⟩ := copy_0 HFI.out HXI.out HLI.out HNE.out HNE2.out HNA.out HG8.out
          have HFN' := hid HFN
          have HXN' := hid HXN
          have HLN' := hid HLN
          clear HFN HXN HLN o0 o1 o2 o3 of s0 s1 s2 s3 sf
          go_wp2_with fail
          go_roundw
          case rel => exact ⟨Or.inr (Or.inl ⟨by go_num, HFN'⟩), HXN', HLN'⟩
          case measure => simp [intOf]
        · have a8 := axcells_of HXI.out
          unfold AxC at a8
          obtain ⟨y0, y1, y2, y3, y4, y5, y6⟩ := a8
          obtain ⟨z0, z1, z2⟩ := mcells_of HFI.out.2.2.2.1
          obtain ⟨s0, s1, s2, s3, sf⟩ := l4cells HLI.out
          obtain ⟨o0, o1, o2, o3, of⟩ := l4cells HFI.out.2.2.2.2.1
          obtain ⟨hcp, HFN, HXN, HLN⟩ := copy_1 HFI.out HXI.out HLI.out HNE.out HNE2.out HNA.out HG8.out
          have HFN' := hid HFN
          have HXN' := hid HXN
          have HLN' := hid HLN
          clear HFN HXN HLN o0 o1 o2 o3 of s0 s1 s2 s3 sf
          go_wp2_with fail
          go_roundw
          case rel => exact ⟨Or.inr (Or.inr ⟨by go_num, HFN'⟩), HXN', HLN'⟩
          case measure => simp [intOf]
        · have a8 := axcells_of HXI.out
          go_wp2_with fail
          go_roundw
          case rel => exact Or.inr ⟨by go_num, HFI⟩
          case measure => simp [intOf]
    · obtain ⟨z0, z1, z2⟩ := mcells_of HFE.out.2.2.2.1
      obtain ⟨r0, r1, r2⟩ := mcells_of HFE.out.2.2.1
      have fz := frzM HFE.out.2.2.1
      have hrbl := HNE.out.2.2.2.2.1
      go_wp2_with fail
      refine bodyPost_ret (v := .tuple #[.agg #[.int .i64 2, .int .i64 2, .slice (some ⟨g, 0, none⟩) 4 4], .int .i64 0]) (by simp [results, Try.results17, go_sem, r0, r1, r2]) rfl ⟨⟨g, rfl, ?_⟩, ?_⟩
      · exact (StoM.keep HNE.out.2.1).trans HFE.out.2.2.2.2.1
      · have := StoM.below (r := 2) (c := 2) (sa := some ⟨g, 0, none⟩) (n := 4) (cap := 4) HFE.out.1 hrbl
        first | exact this | (rw [hmb'] at this; exact this)
end Go.Proofs.Ytggiklghcnojiaa
