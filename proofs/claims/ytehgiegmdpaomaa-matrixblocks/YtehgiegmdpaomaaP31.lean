
/- matrix: the chapter's first examples of Mul, Mean, Sandwich, Check, Equal. -/
import Derived.Test.YtehgiegmdpaomaaP30
namespace Go.Proofs.Ytehgiegmdpaomaa
open Go.RowKit Go.IntWalk

theorem canon_val {x v : Nat} (h : canonOf x = v) (hv : v ≠ 9221120237041090561) : x = v := by
  unfold canonOf at h
  split at h
  · exact absurd h.symm hv
  · exact h
theorem finF_of {n : Nat} {o : Nat → Nat} (h : ∀ k, k < n → (expOf (o k) == 2047) = false) : finF n o = true := by
  unfold finF finM
  rw [List.all_eq_true]
  intro x hx
  obtain ⟨k, hk, rfl⟩ := List.mem_map.1 hx
  rw [h k (List.mem_range.1 hk)]
  rfl
/-- Four numbers, two numbers as a function. -/
def q4 (a b c d : Nat) : Nat → Nat | 0 => a | 1 => b | 2 => c | _ => d
def q2 (a b : Nat) : Nat → Nat | 0 => a | _ => b
def L4 (a b c d : Nat) : Obj := .cells #[.float .f64 a, .float .f64 b, .float .f64 c, .float .f64 d] 42
def L2 (a b : Nat) : Obj := .cells #[.float .f64 a, .float .f64 b] 42
theorem l4_fn {W : World} {b x y z t : Nat} (h : W.heap[b]? = some (L4 x y z t)) (hx : x < 18446744073709551616) (hy : y < 18446744073709551616) (hz : z < 18446744073709551616) (ht : t < 18446744073709551616) : FnM W (some ⟨b, 0, none⟩) 4 4 (q4 x y z t) := by
  refine Or.inr ⟨b, 0, rfl, (Array.getElem?_eq_some_iff.1 h).1, Nat.le_refl _, by decide, fun j hj => ?_⟩
  unfold L4 at h
  match j, hj with
  | 0, _ => exact ⟨by simp [World.cell?, h, q4], hx⟩
  | 1, _ => exact ⟨by simp [World.cell?, h, q4], hy⟩
  | 2, _ => exact ⟨by simp [World.cell?, h, q4], hz⟩
  | 3, _ => exact ⟨by simp [World.cell?, h, q4], ht⟩
theorem l2_fn {W : World} {b x y : Nat} (h : W.heap[b]? = some (L2 x y)) (hx : x < 18446744073709551616) (hy : y < 18446744073709551616) : FnM W (some ⟨b, 0, none⟩) 2 2 (q2 x y) := by
  refine Or.inr ⟨b, 0, rfl, (Array.getElem?_eq_some_iff.1 h).1, Nat.le_refl _, by decide, fun j hj => ?_⟩
  unfold L2 at h
  match j, hj with
  | 0, _ => exact ⟨by simp [World.cell?, h, q2], hx⟩
  | 1, _ => exact ⟨by simp [World.cell?, h, q2], hy⟩
theorem fn_cell {W : World} {g n cap : Nat} {o : Nat → Nat} (h : FnM W (some ⟨g, 0, none⟩) n cap o) (k : Nat) (hk : k < n) : W.cell? ⟨g, k, none⟩ = some (.float .f64 (o k)) ∧ g < W.heap.size := by
  rcases h with ⟨h1, _, _⟩ | ⟨b, off, h1, h2, _, _, h5⟩
  · cases h1
  · cases h1
    have := (h5 k hk).1
    rw [Nat.zero_add] at this
    exact ⟨this, h2⟩
theorem ex_dots : dotM (fun k => q4 4607182418800017408 4611686018427387904 4613937818241073152 4616189618054758400 (0 * 2 + k)) (fun k => q4 0 4607182418800017408 4607182418800017408 0 (k * 2 + 0)) 2 = 4611686018427387904 ∧ dotM (fun k => q4 4607182418800017408 4611686018427387904 4613937818241073152 4616189618054758400 (0 * 2 + k)) (fun k => q4 0 4607182418800017408 4607182418800017408 0 (k * 2 + 1)) 2 = 4607182418800017408 ∧ dotM (fun k => q4 4607182418800017408 4611686018427387904 4613937818241073152 4616189618054758400 (1 * 2 + k)) (fun k => q4 0 4607182418800017408 4607182418800017408 0 (k * 2 + 0)) 2 = 4616189618054758400 ∧ dotM (fun k => q4 4607182418800017408 4611686018427387904 4613937818241073152 4616189618054758400 (1 * 2 + k)) (fun k => q4 0 4607182418800017408 4607182418800017408 0 (k * 2 + 1)) 2 = 4613937818241073152 := by decide +kernel
theorem Mul_ex (b1 b2 : Nat) (w : World) (h1 : w.heap[b1]? = some (L4 4607182418800017408 4611686018427387904 4613937818241073152 4616189618054758400)) (h2 : w.heap[b2]? = some (L4 0 4607182418800017408 4607182418800017408 0)) :
    Calls Try.prog 14 #[.agg #[.int .i64 2, .int .i64 2, .slice (some ⟨b1, 0, none⟩) 4 4], .agg #[.int .i64 2, .int .i64 2, .slice (some ⟨b2, 0, none⟩) 4 4]] w fun e w' => (∃ g, e = .returned (.tuple #[.agg #[.int .i64 2, .int .i64 2, .slice (some ⟨g, 0, none⟩) 4 4], .int .i64 0]) ∧ w'.cell? ⟨g, 0, none⟩ = some (.float .f64 4611686018427387904) ∧ w'.cell? ⟨g, 3, none⟩ = some (.float .f64 4613937818241073152) ∧ g < w'.heap.size) ∧ Below w.heap.size w w' := by
  have f1 := l4_fn h1 (by decide) (by decide) (by decide) (by decide)
  have f2 := l4_fn h2 (by decide) (by decide) (by decide) (by decide)
  have g1 : Gd w 2 2 _ 4 4 _ := ⟨by decide, by decide, by decide, f1, by decide +kernel⟩
  have g2 : Gd w 2 2 _ 4 4 _ := ⟨by decide, by decide, by decide, f2, by decide +kernel⟩
  refine (Mul_ok 2 2 2 2 4 4 _ _ 4 4 _ _ w g1 g2 rfl).mono ?_
  rintro e w' ⟨⟨g, o, rfl, hf, hv⟩, hb⟩
  obtain ⟨e0, e1, e2, e3⟩ := ex_dots
  have o0 : o 0 = 4611686018427387904 := canon_val ((hv 0 0 (by decide) (by decide)).trans e0) (by decide)
  have o1 : o 1 = 4607182418800017408 := canon_val ((hv 0 1 (by decide) (by decide)).trans e1) (by decide)
  have o2 : o 2 = 4616189618054758400 := canon_val ((hv 1 0 (by decide) (by decide)).trans e2) (by decide)
  have o3 : o 3 = 4613937818241073152 := canon_val ((hv 1 1 (by decide) (by decide)).trans e3) (by decide)
  have hfin : finF (2 * 2) o = true := finF_of (fun k hk => by
    match k, hk with
    | 0, _ => rw [o0]; decide +kernel
    | 1, _ => rw [o1]; decide +kernel
    | 2, _ => rw [o2]; decide +kernel
    | 3, _ => rw [o3]; decide +kernel)
  have c0 := fn_cell hf 0 (by decide)
  have c3 := fn_cell hf 3 (by decide)
  rw [o0] at c0
  rw [o3] at c3
  refine ⟨⟨g, ?_, c0.1, c3.1, c0.2⟩, hb⟩
  unfold AnsM
  rw [if_pos hfin, if_pos hfin]
  rfl
theorem Mean_ex (b1 : Nat) (w : World) (h1 : w.heap[b1]? = some (L4 4607182418800017408 4611686018427387904 4616189618054758400 4607182418800017408)) :
    Calls Try.prog 15 #[.agg #[.int .i64 2, .int .i64 2, .slice (some ⟨b1, 0, none⟩) 4 4]] w fun e w' => (∃ g, e = .returned (.tuple #[.agg #[.int .i64 2, .int .i64 2, .slice (some ⟨g, 0, none⟩) 4 4], .int .i64 0]) ∧ w'.cell? ⟨g, 1, none⟩ = some (.float .f64 4613937818241073152) ∧ g < w'.heap.size) ∧ Below w.heap.size w w' := by
  have f1 := l4_fn h1 (by decide) (by decide) (by decide) (by decide)
  have g1 : Gd w 2 2 _ 4 4 _ := ⟨by decide, by decide, by decide, f1, by decide +kernel⟩
  refine (Mean_ok 2 4 _ 4 _ w g1).mono ?_
  rintro e w' ⟨⟨g, o, rfl, hf, hs, hv⟩, hb⟩
  have a1 : floatBits .add .f64 4616189618054758400 4611686018427387904 = some 4618441417868443648 := by decide +kernel
  have a2 : floatBits .quo .f64 4618441417868443648 4611686018427387904 = some 4613937818241073152 := by decide +kernel
  have o2 : o 2 = 4613937818241073152 := by
    rcases hv 1 0 (by decide) (by decide) with ⟨h, _⟩ | ⟨_, W, W', h⟩
    · cases h
    · have h' : o 2 = quF (arF .add 4616189618054758400 4611686018427387904 W) 4611686018427387904 W' := h
      rw [h']
      unfold arF
      rw [a1]
      unfold quF
      rw [Option.getD_some, a2]
      rfl
  have o1 : o 1 = 4613937818241073152 := (hs 0 1 (by decide) (by decide)).trans o2
  have o0 : o 0 = 4607182418800017408 := by
    rcases hv 0 0 (by decide) (by decide) with ⟨_, h⟩ | ⟨h, _⟩
    · exact h
    · exact absurd rfl h
  have o3 : o 3 = 4607182418800017408 := by
    rcases hv 1 1 (by decide) (by decide) with ⟨_, h⟩ | ⟨h, _⟩
    · exact h
    · exact absurd rfl h
  have hfin : finF (2 * 2) o = true := finF_of (fun k hk => by
    match k, hk with
    | 0, _ => rw [o0]; decide +kernel
    | 1, _ => rw [o1]; decide +kernel
    | 2, _ => rw [o2]; decide +kernel
    | 3, _ => rw [o3]; decide +kernel)
  have c1 := fn_cell hf 1 (by decide)
  rw [o1] at c1
  refine ⟨⟨g, ?_, c1.1, c1.2⟩, hb⟩
  unfold AnsM
  rw [if_pos hfin, if_pos hfin]
  rfl
theorem ex_sand : dotM (fun k => q2 4607182418800017408 4611686018427387904 (0 * 2 + k)) (fun k => q4 4607182418800017408 0 0 4607182418800017408 (k * 2 + 0)) 2 = 4607182418800017408 ∧ dotM (fun k => q2 4607182418800017408 4611686018427387904 (0 * 2 + k)) (fun k => q4 4607182418800017408 0 0 4607182418800017408 (k * 2 + 1)) 2 = 4611686018427387904 ∧ dotM (fun k => q2 4607182418800017408 4611686018427387904 (0 * 2 + k)) (fun k => q2 4607182418800017408 4611686018427387904 (0 * 2 + k)) 2 = 4617315517961601024 := by decide +kernel
theorem Sand_ex (b1 b2 : Nat) (w : World) (h1 : w.heap[b1]? = some (L2 4607182418800017408 4611686018427387904)) (h2 : w.heap[b2]? = some (L4 4607182418800017408 0 0 4607182418800017408)) :
    Calls Try.prog 16 #[.agg #[.int .i64 1, .int .i64 2, .slice (some ⟨b1, 0, none⟩) 2 2], .agg #[.int .i64 2, .int .i64 2, .slice (some ⟨b2, 0, none⟩) 4 4]] w fun e w' => (∃ g, e = .returned (.tuple #[.agg #[.int .i64 1, .int .i64 1, .slice (some ⟨g, 0, none⟩) 1 1], .int .i64 0]) ∧ w'.cell? ⟨g, 0, none⟩ = some (.float .f64 4617315517961601024) ∧ g < w'.heap.size) ∧ Below w.heap.size w w' := by
  have f1 := l2_fn h1 (by decide) (by decide)
  have f2 := l4_fn h2 (by decide) (by decide) (by decide) (by decide)
  have g1 : Gd w 1 2 _ 2 2 _ := ⟨by decide, by decide, by decide, f1, by decide +kernel⟩
  have g2 : Gd w 2 2 _ 4 4 _ := ⟨by decide, by decide, by decide, f2, by decide +kernel⟩
  refine (Sand_ok 1 2 2 4 _ _ 2 4 _ _ w g1 g2).mono ?_
  rintro e w' ⟨⟨g, o, rfl, hf, _, o2, hv2, hv⟩, hb⟩
  obtain ⟨e0, e1, e2⟩ := ex_sand
  have q0 : o2 0 = 4607182418800017408 := canon_val ((hv2 0 0 (by decide) (by decide)).trans e0) (by decide)
  have q1 : o2 1 = 4611686018427387904 := canon_val ((hv2 0 1 (by decide) (by decide)).trans e1) (by decide)
  have o0 : o 0 = 4617315517961601024 := by
    have h := hv 0 0 (by decide) (by decide)
    rw [dotM_congr 2 (f2 := fun k => q2 4607182418800017408 4611686018427387904 (0 * 2 + k)) (g2 := fun k => q2 4607182418800017408 4611686018427387904 (0 * 2 + k)) (fun k hk => by
      match k, hk with
      | 0, _ => exact q0
      | 1, _ => exact q1) (fun k hk => rfl), e2] at h
    exact canon_val h (by decide)
  have hfin : finF (1 * 1) o = true := finF_of (fun k hk => by
    match k, hk with
    | 0, _ => rw [o0]; decide +kernel)
  have c0 := fn_cell hf 0 (by decide)
  rw [o0] at c0
  refine ⟨⟨g, ?_, c0.1, c0.2⟩, hb⟩
  unfold AnsM
  rw [if_pos hfin, if_pos hfin]
  rfl
theorem Check_ex (b1 : Nat) (w : World) (h1 : w.heap[b1]? = some (L4 4607182418800017408 4611686018427387904 4613937818241073152 4616189618054758400)) :
    Calls Try.prog 6 #[.agg #[.int .i64 2, .int .i64 2, .slice (some ⟨b1, 0, none⟩) 4 4]] w fun e w' => e = .returned (.int .i64 0) ∧ Below w.heap.size w w' := by
  have f1 := l4_fn h1 (by decide) (by decide) (by decide) (by decide)
  have g1 : Gd w 2 2 _ 4 4 _ := ⟨by decide, by decide, by decide, f1, by decide +kernel⟩
  have := Check_any 2 2 _ 4 4 _ w f1.fl (by decide)
  have e : chkM 2 2 4 _ = 0 := g1.chk
  rw [e] at this
  exact this
theorem Equal_ex (b1 : Nat) (w : World) (h1 : w.heap[b1]? = some (L4 4607182418800017408 4611686018427387904 4613937818241073152 4616189618054758400)) :
    Calls Try.prog 17 #[.agg #[.int .i64 2, .int .i64 2, .slice (some ⟨b1, 0, none⟩) 4 4], .agg #[.int .i64 2, .int .i64 2, .slice (some ⟨b1, 0, none⟩) 4 4]] w fun e w' => e = .returned (.bool true) ∧ Below w.heap.size w w' := by
  have f1 := l4_fn h1 (by decide) (by decide) (by decide) (by decide)
  exact Equal_yes 2 2 _ _ 4 4 4 _ _ w f1 f1 (fun _ _ => rfl)
set_option maxRecDepth 8000 in
set_option maxHeartbeats 2000000 in
theorem awake8_any (w : World) : Calls Try.prog 4 #[] w fun e w' => e = .returned (.bool true) ∧ Below w.heap.size w w' := by
  obtain ⟨t1, t2, t3, t4, t5⟩ := three_b w (L4 4607182418800017408 4611686018427387904 4613937818241073152 4616189618054758400) (MBox 2 2 (some ⟨w.heap.size, 0, none⟩) 4 4) (L4 0 4607182418800017408 4607182418800017408 0)
  have HM := hid (Mul_ex _ _ _ t1 t3)
  obtain ⟨V, hV⟩ : ∃ V, Hid (((w.alloc (L4 4607182418800017408 4611686018427387904 4613937818241073152 4616189618054758400)).alloc (MBox 2 2 (some ⟨w.heap.size, 0, none⟩) 4 4)).alloc (L4 0 4607182418800017408 4607182418800017408 0) = V) := ⟨_, rfl⟩
  rw [hV.out] at HM t1 t2 t3 t4 t5
  have hV' := hV.out
  have HA := hid t1
  have HX := hid t2
  have HB := hid t4
  unfold L4 MBox at hV'
  clear t1 t2 t3 t4 t5
  go_enter Try.func4, Try.ntmps4
  go_wp2_with fail
  refine HM.out.mono ?_
  rintro e w1 ⟨⟨g1, rfl, p0, p3, pg⟩, hb1⟩
  obtain ⟨s1, s2, s3, s4⟩ := two_b w1 (MBox 2 2 (some ⟨g1, 0, none⟩) 4 4) (L4 4607182418800017408 4611686018427387904 4616189618054758400 4607182418800017408)
  have HME := hid (Mean_ex _ _ s2)
  have HP : Hid (((w1.alloc (MBox 2 2 (some ⟨g1, 0, none⟩) 4 4)).alloc (L4 4607182418800017408 4611686018427387904 4616189618054758400 4607182418800017408)).cell? ⟨g1, 0, none⟩ = some (.float .f64 4611686018427387904) ∧ ((w1.alloc (MBox 2 2 (some ⟨g1, 0, none⟩) 4 4)).alloc (L4 4607182418800017408 4611686018427387904 4616189618054758400 4607182418800017408)).cell? ⟨g1, 3, none⟩ = some (.float .f64 4613937818241073152) ∧ g1 < ((w1.alloc (MBox 2 2 (some ⟨g1, 0, none⟩) 4 4)).alloc (L4 4607182418800017408 4611686018427387904 4616189618054758400 4607182418800017408)).heap.size) := ⟨(s3.cell (p := ⟨g1, 0, none⟩) pg).trans p0, (s3.cell (p := ⟨g1, 3, none⟩) pg).trans p3, Nat.lt_of_lt_of_le pg s3.size⟩
  have HA := hid (blkM (blkM HA.out hb1) s3)
  have HX := hid (blkM (blkM HX.out hb1) s3)
  have HB := hid ((HB.out.trans (hb1.mono HB.out.size)).trans (s3.mono (HB.out.trans (hb1.mono HB.out.size)).size))
  have HPX := hid s1
  obtain ⟨V1, hV1⟩ : ∃ V, Hid ((w1.alloc (MBox 2 2 (some ⟨g1, 0, none⟩) 4 4)).alloc (L4 4607182418800017408 4611686018427387904 4616189618054758400 4607182418800017408) = V) := ⟨_, rfl⟩
  rw [hV1.out] at HME HP HA HX HB HPX
  have hV1' := hV1.out
  unfold L4 MBox at hV1'
  clear hb1 s1 s2 s3 s4 p0 p3 pg
  go_wp2_with fail
  refine HME.out.mono ?_
  rintro e w2 ⟨⟨g2, rfl, r1, rg⟩, hb2⟩
  obtain ⟨s1, s2, s3, s4, s5⟩ := three_b w2 (MBox 2 2 (some ⟨g2, 0, none⟩) 4 4) (L2 4607182418800017408 4611686018427387904) (L4 4607182418800017408 0 0 4607182418800017408)
  have HSA := hid (Sand_ex _ _ _ s2 s3)
  have HP := hid (And.intro ((s4.cell (p := ⟨g1, 0, none⟩) (Nat.lt_of_lt_of_le HP.out.2.2 hb2.size)).trans ((hb2.cell (p := ⟨g1, 0, none⟩) HP.out.2.2).trans HP.out.1)) (And.intro ((s4.cell (p := ⟨g1, 3, none⟩) (Nat.lt_of_lt_of_le HP.out.2.2 hb2.size)).trans ((hb2.cell (p := ⟨g1, 3, none⟩) HP.out.2.2).trans HP.out.2.1)) (Nat.lt_of_lt_of_le (Nat.lt_of_lt_of_le HP.out.2.2 hb2.size) s4.size)))
  have HQ := hid (And.intro ((s4.cell (p := ⟨g2, 1, none⟩) rg).trans r1) (Nat.lt_of_lt_of_le rg s4.size))
  have HA := hid (blkM (blkM HA.out hb2) s4)
  have HX := hid (blkM (blkM HX.out hb2) s4)
  have HPX := hid (blkM (blkM HPX.out hb2) s4)
  have HB := hid ((HB.out.trans (hb2.mono HB.out.size)).trans (s4.mono (HB.out.trans (hb2.mono HB.out.size)).size))
  have HQX := hid s1
  obtain ⟨V2, hV2⟩ : ∃ V, Hid (((w2.alloc (MBox 2 2 (some ⟨g2, 0, none⟩) 4 4)).alloc (L2 4607182418800017408 4611686018427387904)).alloc (L4 4607182418800017408 0 0 4607182418800017408) = V) := ⟨_, rfl⟩
  rw [hV2.out] at HSA HP HQ HA HX HPX HB HQX
  have hV2' := hV2.out
  unfold L4 L2 MBox at hV2'
  clear hb2 s1 s2 s3 s4 s5 r1 rg
  go_wp2_with fail
  refine HSA.out.mono ?_
  rintro e w3 ⟨⟨g3, rfl, r1, rg⟩, hb3⟩
  have hal : Below w3.heap.size w3 (w3.alloc (MBox 1 1 (some ⟨g3, 0, none⟩) 1 1)) := (Below.refl _ _).alloc (Nat.le_refl _) _
  have hbb := hb3.trans (hal.mono hb3.size)
  have HP := hid (And.intro ((hbb.cell (p := ⟨g1, 0, none⟩) HP.out.2.2).trans HP.out.1) ((hbb.cell (p := ⟨g1, 3, none⟩) HP.out.2.2).trans HP.out.2.1))
  have HQ := hid ((hbb.cell (p := ⟨g2, 1, none⟩) HQ.out.2).trans HQ.out.1)
  have HS := hid ((hal.cell (p := ⟨g3, 0, none⟩) rg).trans r1)
  have HA := hid (blkM HA.out hbb)
  have HX := hid (blkM HX.out hbb)
  have HPX := hid (blkM HPX.out hbb)
  have HQX := hid (blkM HQX.out hbb)
  have HSX : Hid ((w3.alloc (MBox 1 1 (some ⟨g3, 0, none⟩) 1 1)).heap[w3.heap.size]? = some (MBox 1 1 (some ⟨g3, 0, none⟩) 1 1)) := nblkM _ _
  have HB := hid (HB.out.trans (hbb.mono HB.out.size))
  obtain ⟨V3, hV3⟩ : ∃ V, Hid (w3.alloc (MBox 1 1 (some ⟨g3, 0, none⟩) 1 1) = V) := ⟨_, rfl⟩
  rw [hV3.out] at HP HQ HS HA HX HPX HQX HSX HB
  have hV3' := hV3.out
  unfold MBox at hV3'
  obtain ⟨a0, a1, a2⟩ := mcells_of HX.out
  obtain ⟨b0, b1, b2⟩ := mcells_of HPX.out
  obtain ⟨c0, c1, c2⟩ := mcells_of HQX.out
  obtain ⟨d0, d1, d2⟩ := mcells_of HSX.out
  obtain ⟨n0, n3⟩ := HP.out
  have n1 := HQ.out
  have n5 := HS.out
  have k2 : (FloatKind.f64.format.order 4611686018427387904 4611686018427387904 == some .eq) = true := by decide +kernel
  have k3 : (FloatKind.f64.format.order 4613937818241073152 4613937818241073152 == some .eq) = true := by decide +kernel
  have k5 : (FloatKind.f64.format.order 4617315517961601024 4617315517961601024 == some .eq) = true := by decide +kernel
  have HCH := hid (Check_ex _ _ HA.out)
  clear hb3 hal hbb r1 rg
  go_wp2_with fail
  refine HCH.out.mono ?_
  rintro e w4 ⟨rfl, hb4⟩
  obtain ⟨a0, a1, a2⟩ := mcells_of (blkM HX.out hb4)
  have HEQ := hid (Equal_ex _ _ (blkM HA.out hb4))
  have HB4 := hid (HB.out.trans (hb4.mono HB.out.size))
  clear hb4
  go_wp2_with fail
  refine HEQ.out.mono ?_
  rintro e w5 ⟨rfl, hb5⟩
  go_wp2_with fail
  go_ret
  exact ⟨rfl, HB4.out.trans (hb5.mono HB4.out.size)⟩
end Go.Proofs.Ytehgiegmdpaomaa
