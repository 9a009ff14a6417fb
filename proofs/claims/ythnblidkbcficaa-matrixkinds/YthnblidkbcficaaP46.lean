
/- The document's Mean; Mean of any matrix. (Written by mknce.py.) -/
import Derived.Test.YthnblidkbcficaaP45
namespace Go.Proofs.Ythnblidkbcficaa
open Go.RowKit Go.IntWalk

theorem canon_qu (x y : Nat) (w : World) : canonOf (quF x y w) = caf .quo x y := by
  unfold quF caf
  cases h : floatBits .quo .f64 x y with
  | none => exact canon_nan (nanF_nan x y w)
  | some z => rfl
/-- The sum of two finite numbers. -/
def zadd (a b : Nat) : Nat := (floatBits .add .f64 a b).getD 0
/-- The numbers of the mean, from the diagonal down. -/
def meaL (f : Nat → Nat) (c i j : Nat) : Nat := if i = j then canonOf (f (i * c + i)) else caf .quo (zadd (f (i * c + j)) (f (j * c + i))) 4611686018427387904
def meaV (f : Nat → Nat) (c i j : Nat) : Nat := if j ≤ i then meaL f c i j else meaL f c j i
theorem mean_can {f : Nat → Nat} {c i j x : Nat} (w : World) (hf : ∀ k, k < c * c → f k < 18446744073709551616 ∧ f k % 9223372036854775808 < 9218868437227405312) (hi : i < c) (hj : j < c) (h : MeanP f c i j x) : canonOf x = meaL f c i j := by
  unfold meaL
  rcases h with ⟨h1, h2⟩ | ⟨h1, W, W', h2⟩
  · rw [if_pos h1, h2]
  · rw [if_neg h1, h2, canon_qu]
    have a1 := hf _ (place_lt hi hj)
    have a2 := hf _ (place_lt hj hi)
    obtain ⟨z, hz, _, _⟩ := fin_some ok_a w _ _ a1.1 a2.1 a1.2 a2.2
    unfold arF zadd
    rw [hz]
    rfl
set_option maxRecDepth 4000 in
set_option maxHeartbeats 1000000 in
theorem rMean_ok (c n : Nat) (sa : Option Addr) (ka : Nat) (f : Nat → Nat) (w : World) (ha : Gd w c c sa n ka f) :
    Calls Try.prog 73 #[.agg #[.int .i64 c, .int .i64 c, .slice sa n ka]] w fun e w' => (∃ (g : Nat) (o : Nat → Nat), e = .returned (AnsM c c (c * c) g o) ∧ FnM w' (some ⟨g, 0, none⟩) (c * c) (c * c) o ∧ ∀ i j, i < c → j < c → canonOf (o (i * c + j)) = meaV f c i j) ∧ Below w.heap.size w w' := by
  have hl12 := ha.1
  have hcc : ((c : Int) != (c : Int)) = false := by simp
  have r2 := qu_run
  have HL12 := hid hl12
  have HAT : Hid (∀ W i j, Below w.heap.size w W → i < c → j < c → Calls Try.prog 27 #[.agg #[.int .i64 c, .int .i64 c, .slice sa n ka], .int .i64 (i : Nat), .int .i64 (j : Nat)] W fun e w' => e = .returned (.float .f64 (f (i * c + j))) ∧ Below W.heap.size W w') := fun W i j hW hi hj => rAt_fn c sa c n ka i j f W (ha.below hW).2.2.2.1 (by omega) (by omega) (by omega) (by rw [ha.2.2.1]; exact place_lt hi hj)
  have HPUT0 : Hid (∀ W (g x i j : Nat) (o : Nat → Nat), W.rowIs g 51 (c * c) (fun k => .float .f64 (o k)) → i < c → j < c → Calls Try.prog 30 #[.agg #[.int .i64 c, .int .i64 c, .slice (some ⟨g, 0, none⟩) (c * c) (c * c)], .int .i64 (i : Nat), .int .i64 (j : Nat), .float .f64 x] W fun e w' => e = .returned (.tuple #[]) ∧ w' = (W.alloc (MBox c c (some ⟨g, 0, none⟩) (c * c) (c * c))).setCell ⟨g, i * c + j, none⟩ (.float .f64 x)) := fun W g x i j o hW hi hj => by
    have hk := place_lt hi hj
    exact Put_any c g c _ _ i j x _ W (hW.cell hk) (hW.frozen _) hW.lt (by omega) (by omega) (by omega) hk
  have HPL : Hid (∀ i j, i < c → j < c → i * c + j < c * c) := fun i j hi hj => place_lt hi hj
  obtain ⟨t1, t2, t3, t4⟩ := two_b w (MBox c c sa n ka) (MBox 0 0 none 0 0)
  have HZ0 := hid (fun W => rRaw_any c c (by have := ha.1; omega) (by have := ha.2.1; omega) W)
  have HNN : Hid (n = c * c ∧ c * c ≤ 144) := ⟨ha.2.2.1, by have := ha.le; rw [ha.2.2.1] at this; exact this⟩
  have HFA := hid ha.2.2.2.1
  have HGD := hid ha
  have HXA := hid (fun i (hi : i < c * c) => gd_fin ha i hi)
  obtain ⟨N, hN⟩ : ∃ p, Hid (c * c = p) := ⟨_, rfl⟩
  rw [hN.out] at HZ0 HNN HXA HPUT0 HPL
  rw [hN.out]
  have hnn := HNN.out.1.symm
  subst hnn
  obtain ⟨V, hV⟩ : ∃ V, Hid ((w.alloc (MBox c c sa N ka)).alloc (MBox 0 0 none 0 0) = V) := ⟨_, rfl⟩
  rw [hV.out] at t1 t2 t3 t4
  have hV' := hV.out
  unfold MBox at hV'
  obtain ⟨g, hg⟩ : ∃ t, Hid (V.heap.size + 1 = t) := ⟨_, rfl⟩
  have HZ := hid (HZ0.out V)
  rw [hg.out] at HZ
  have HPUT := hid (fun W x i j o => HPUT0.out W g x i j o)
  clear HZ0 HPUT0
  obtain ⟨p0, hp0⟩ : ∃ t, Hid (w.heap.size = t) := ⟨_, rfl⟩
  obtain ⟨rb, hrb⟩ : ∃ t, Hid (p0 + 1 = t) := ⟨_, rfl⟩
  rw [hp0.out] at t1 t2
  rw [hrb.out] at t2
  have HT1 := hid t1
  have HT3 := hid t2
  have HT4 := hid t3
  have HT5 := hid t4
  have hp0' := hp0.out
  have hrb' := hrb.out
  obtain ⟨x0, x1, x2⟩ := mcells_of t1
  clear t1 t2 t3 t4 ha hl12
  have hst := fstoreM
  go_enter Try.func73, Try.ntmps73
  go_wp2_with fail
  refine HZ.out.mono ?_
  rintro e w1 ⟨rfl, h1, h2⟩
  have hal : Below w1.heap.size w1 (w1.alloc (MBox c c (some ⟨g, 0, none⟩) N N)) := (Below.refl _ _).alloc (Nat.le_refl _) _
  have hlt : g < w1.heap.size := h1.lt
  obtain ⟨mb, hmb⟩ : ∃ t, Hid (w1.heap.size = t) := ⟨_, rfl⟩
  have HFR : Hid (Fr5 w (w1.alloc (MBox c c (some ⟨g, 0, none⟩) N N)) p0 rb mb mb (MBox c c sa N ka) (MBox 0 0 none 0 0) (MBox c c (some ⟨g, 0, none⟩) N N) (MBox c c (some ⟨g, 0, none⟩) N N)) := by
    have q2 : (w1.alloc (MBox c c (some ⟨g, 0, none⟩) N N)).heap[mb]? = some (MBox c c (some ⟨g, 0, none⟩) N N) := by rw [← hmb.out]; exact nblkM _ _
    exact ⟨(HT4.out.trans (h2.mono HT4.out.size)).trans (hal.mono (Nat.le_trans HT4.out.size h2.size)), blkM (blkM HT1.out h2) hal, blkM (blkM HT3.out h2) hal, q2, q2⟩
  have HR0 : Hid ((w1.alloc (MBox c c (some ⟨g, 0, none⟩) N N)).rowIs g 51 N (fun _ => .float .f64 0)) := h1.of_block (hal.block _ hlt)
  have HNE : Hid (p0 ≠ g ∧ rb ≠ g ∧ mb ≠ g ∧ w.heap.size ≤ g) := by
    have e1 := hp0.out; have e3 := hrb.out; have e4 := hmb.out; have e5 := hg.out; have e6 := HT5.out
    show _ ∧ _ ∧ _ ∧ _
    omega
  have HRB : Hid (w.heap.size ≤ rb) := by
    have e1 := hp0.out; have e3 := hrb.out
    show _ ≤ _
    omega
  obtain ⟨V1, hV1⟩ : ∃ V, Hid (w1.alloc (MBox c c (some ⟨g, 0, none⟩) N N) = V) := ⟨_, rfl⟩
  rw [hV1.out] at HFR HR0
  have hW1 := hV1.out
  have hmb' := hmb.out
  unfold MBox at hW1
  unfold MV
  have HKS : Hid (∀ W, Hid (Fr5 w W p0 rb mb mb (MBox c c sa N ka) (MBox 0 0 none 0 0) (MBox c c (some ⟨g, 0, none⟩) N N) (MBox c c (some ⟨g, 0, none⟩) N N)) → (W.cell? ⟨mb, 0, none⟩ = some (.int .i64 c) ∧ W.cell? ⟨mb, 1, none⟩ = some (.int .i64 c) ∧ W.cell? ⟨mb, 2, none⟩ = some (.slice (some ⟨g, 0, none⟩) N N) ∧ W.cell? ⟨p0, 0, none⟩ = some (.int .i64 c) ∧ W.cell? ⟨p0, 1, none⟩ = some (.int .i64 c) ∧ W.cell? ⟨p0, 2, none⟩ = some (.slice sa N ka)) ∧ Hid (Fr5 w W p0 rb mb mb (MBox c c sa N ka) (MBox 0 0 none 0 0) (MBox c c (some ⟨g, 0, none⟩) N N) (MBox c c (some ⟨g, 0, none⟩) N N))) := fun W hW => by
    obtain ⟨a0, a1, a2⟩ := mcells_of hW.out.2.1
    obtain ⟨n0, n1, n2⟩ := mcells_of hW.out.2.2.2.1
    exact ⟨⟨n0, n1, n2, a0, a1, a2⟩, hW⟩
  clear h1 h2 hal HZ hlt x0 x1 x2
  go_wp2_with fail
  go_loopw [5] (fun iv wr => ∃ (i : Nat) (o : Nat → Nat), i ≤ c ∧ iv = .int .i64 i ∧ Hid (wr.rowIs g 51 N (fun k => .float .f64 (o k))) ∧ Hid (∀ a b, a < i → b ≤ a → canonOf (o (a * c + b)) = meaL f c a b) ∧ Hid (∀ k, o k < 18446744073709551616) ∧ Hid (Fr5 w wr p0 rb mb mb (MBox c c sa N ka) (MBox 0 0 none 0 0) (MBox c c (some ⟨g, 0, none⟩) N N) (MBox c c (some ⟨g, 0, none⟩) N N))) (fun iv _ => c - (intOf iv).toNat)
  case atStart => exact ⟨0, fun _ => 0, Nat.zero_le _, rfl, HR0, fun a b h => absurd h (Nat.not_lt_zero a), fun _ => by show 0 < 18446744073709551616; decide, HFR⟩
  case round =>
    obtain ⟨i, o2, hi, rfl, HR, HP, HLO, HFW⟩ := hrel
    obtain ⟨x0, x1, x2⟩ := mcells_of HFW.out.2.1
    have l12 := HL12.out
    by_cases hlt : i < c
    · have hiI : (i : Int) < (c : Int) := by omega
      have HI := hid hlt
      have HQ0 : Hid (Fr5 w wr.drew p0 rb mb mb (MBox c c sa N ka) (MBox 0 0 none 0 0) (MBox c c (some ⟨g, 0, none⟩) N N) (MBox c c (some ⟨g, 0, none⟩) N N)) := HFW.out.drew
      have HRD : Hid (wr.drew.rowIs g 51 N (fun k => .float .f64 (o2 k))) := HR.out.of_block rfl
      have HXL : Hid (f (i * c + i) < 18446744073709551616) := (HXA.out _ (HPL.out i i hlt hlt)).1
      obtain ⟨x, hx⟩ : ∃ t, Hid (f (i * c + i) = t) := ⟨_, rfl⟩
      rw [hx.out] at HXL
      clear hlt
      go_wp2_with fail
      refine wp_region_held_drew (S := fun W => (W.cell? ⟨mb, 0, none⟩ = some (.int .i64 c) ∧ W.cell? ⟨mb, 1, none⟩ = some (.int .i64 c) ∧ W.cell? ⟨mb, 2, none⟩ = some (.slice (some ⟨g, 0, none⟩) N N) ∧ W.cell? ⟨p0, 0, none⟩ = some (.int .i64 c) ∧ W.cell? ⟨p0, 1, none⟩ = some (.int .i64 c) ∧ W.cell? ⟨p0, 2, none⟩ = some (.slice sa N ka)) ∧ Hid (Fr5 w W p0 rb mb mb (MBox c c sa N ka) (MBox 0 0 none 0 0) (MBox c c (some ⟨g, 0, none⟩) N N) (MBox c c (some ⟨g, 0, none⟩) N N))) (by kernel_rfl) (HKS.out _ HQ0) (fun hHeld => ?_)
      refine take_at 0 24 (.agg #[.int .i64 c, .int .i64 c, .slice (some ⟨g, 0, none⟩) N N]) rfl rfl (by kernel_rfl) (by kernel_rfl) (by kernel_rfl) (fun _ _ _ h => h) (Or.inl ⟨by rfl, fun w hSw => by (try dsimp only at hSw); go_simp⟩) (by assumption) ?_
      simp only [Act.put, List.setIfInBounds_toArray, List.set_cons_zero, List.set_cons_succ]
      refine take_at 1 25 (.int .i64 i) rfl rfl (by kernel_rfl) (by kernel_rfl) (by kernel_rfl) (fun _ _ _ h => h) (Or.inl ⟨by rfl, fun w hSw => by (try dsimp only at hSw); go_simp⟩) (by assumption) ?_
      simp only [Act.put, List.setIfInBounds_toArray, List.set_cons_zero, List.set_cons_succ]
      refine take_at 2 26 (.int .i64 i) rfl rfl (by kernel_rfl) (by kernel_rfl) (by kernel_rfl) (fun _ _ _ h => h) (Or.inl ⟨by rfl, fun w hSw => by (try dsimp only at hSw); go_simp⟩) (by assumption) ?_
      simp only [Act.put, List.setIfInBounds_toArray, List.set_cons_zero, List.set_cons_succ]
      refine take_at 3 27 (.agg #[.int .i64 c, .int .i64 c, .slice sa N ka]) rfl rfl (by kernel_rfl) (by kernel_rfl) (by kernel_rfl) (fun _ _ _ h => h) (Or.inl ⟨by rfl, fun w hSw => by (try dsimp only at hSw); go_simp⟩) (by assumption) ?_
      simp only [Act.put, List.setIfInBounds_toArray, List.set_cons_zero, List.set_cons_succ]
      refine take_at 4 28 (.int .i64 i) rfl rfl (by kernel_rfl) (by kernel_rfl) (by kernel_rfl) (fun _ _ _ h => h) (Or.inl ⟨by rfl, fun w hSw => by (try dsimp only at hSw); go_simp⟩) (by assumption) ?_
      simp only [Act.put, List.setIfInBounds_toArray, List.set_cons_zero, List.set_cons_succ]
      refine take_at 5 29 (.int .i64 i) rfl rfl (by kernel_rfl) (by kernel_rfl) (by kernel_rfl) (fun _ _ _ h => h) (Or.inl ⟨by rfl, fun w hSw => by (try dsimp only at hSw); go_simp⟩) (by assumption) ?_
      simp only [Act.put, List.setIfInBounds_toArray, List.set_cons_zero, List.set_cons_succ]
      refine wpAnyH_ready (rs := [6]) (by kernel_rfl) (by simp) ?_
      refine AllReadyH.cons (o := _) rfl (fun K hK => ?_) AllReadyH.nil
      go_simp
      refine (HAT.out _ i i HQ0.out.1 HI.out HI.out).mono ?_
      rintro e u1 ⟨rfl, hb1⟩
      have HG1 := hid (HQ0.out.call hb1)
      have HR1 : Hid (u1.rowIs g 51 N (fun k => .float .f64 (o2 k))) := HRD.out.of_block (hb1.block _ HRD.out.lt)
      rw [hx.out]
      clear hb1
      go_wp2_with fail
      refine hK.out _ _ (HKS.out _ HG1) (fun hHeld1 => ?_)
      clear hK K
      try simp only [Act.put, List.setIfInBounds_toArray, List.set_cons_zero, List.set_cons_succ]
      refine wpAnyH_ready (rs := [7]) (by kernel_rfl) (by simp) ?_
      refine AllReadyH.cons (o := _) rfl (fun K hK => ?_) AllReadyH.nil
      go_simp
      refine (HPUT.out _ x i i o2 HR1.out HI.out HI.out).mono ?_
      rintro e u4 ⟨rfl, hu4⟩
      have hal : Below u1.heap.size u1 (u1.alloc (MBox c c (some ⟨g, 0, none⟩) N N)) := (Below.refl _ _).alloc (Nat.le_refl _) _
      have HG4 : Hid (Fr5 w u4 p0 rb mb mb (MBox c c sa N ka) (MBox 0 0 none 0 0) (MBox c c (some ⟨g, 0, none⟩) N N) (MBox c c (some ⟨g, 0, none⟩) N N)) := by rw [hu4]; exact (HG1.out.call hal).set HNE.out.1 HNE.out.2.1 HNE.out.2.2.1 HNE.out.2.2.1 HNE.out.2.2.2 _
      have HR4 : Hid (u4.rowIs g 51 N (fun t => .float .f64 (if t = i * c + i then x else o2 t))) := by
        rw [hu4]
        refine ((HR1.out.of_block (hal.block _ HR1.out.lt)).set (i * c + i) _).congr (fun t _ => ?_)
        by_cases ht : t = i * c + i <;> simp [ht]
      clear hal hu4
      go_wp2_with fail
      refine hK.out _ _ (HKS.out _ HG4) (fun hHeld2 => ?_)
      clear hK K
      try simp only [Act.put, List.setIfInBounds_toArray, List.set_cons_zero, List.set_cons_succ]
      refine wpAnyH_done (by kernel_rfl) ?_ _
      have HP7 : Hid (∀ a b, ((a < i ∧ b ≤ a) ∨ (a = i ∧ b = i)) → canonOf (if a * c + b = i * c + i then x else o2 (a * c + b)) = meaL f c a b) := fun a b hab => by
        have hi1 := HI.out
        rcases hab with ⟨h1, h2⟩ | ⟨h1, h2⟩
        · rw [if_neg (fun q => by have := (place_ne (by omega) hi1 q).1; omega)]
          exact HP.out a b h1 h2
        · subst h1 h2
          rw [if_pos rfl]
          unfold meaL
          rw [if_pos rfl, hx.out]
      have HLO7 : Hid (∀ k, (if k = i * c + i then x else o2 k) < 18446744073709551616) := fun k => by
        by_cases hk : k = i * c + i
        · rw [if_pos hk]; exact HXL.out
        · rw [if_neg hk]; exact HLO.out k
      obtain ⟨o7, ho7⟩ : ∃ q : Nat → Nat, Hid ((fun t => if t = i * c + i then x else o2 t) = q) := ⟨_, rfl⟩
      have HR7 : Hid (u4.rowIs g 51 N (fun k => .float .f64 (o7 k))) := by have := HR4.out; have h := ho7.out; subst h; exact this
      have HP7' : Hid (∀ a b, ((a < i ∧ b ≤ a) ∨ (a = i ∧ b = i)) → canonOf (o7 (a * c + b)) = meaL f c a b) := by have := HP7.out; have h := ho7.out; subst h; exact this
      have HLO7' : Hid (∀ k, o7 k < 18446744073709551616) := by have := HLO7.out; have h := ho7.out; subst h; exact this
      clear HP7 HLO7 HR4
      go_wp2_with fail
      go_loopw [6] (fun jv wr2 => ∃ (j : Nat) (o2 : Nat → Nat), j ≤ i ∧ jv = .int .i64 j ∧ Hid (wr2.rowIs g 51 N (fun k => .float .f64 (o2 k))) ∧ Hid (∀ a b, ((a < i ∧ b ≤ a) ∨ (a = i ∧ (b = i ∨ b < j))) → canonOf (o2 (a * c + b)) = meaL f c a b) ∧ Hid (∀ k, o2 k < 18446744073709551616) ∧ Hid (Fr5 w wr2 p0 rb mb mb (MBox c c sa N ka) (MBox 0 0 none 0 0) (MBox c c (some ⟨g, 0, none⟩) N N) (MBox c c (some ⟨g, 0, none⟩) N N))) (fun jv _ => i - (intOf jv).toNat)
      case atStart => exact ⟨0, o7, Nat.zero_le _, rfl, HR7, fun a b hab => HP7'.out a b (by rcases hab with h | ⟨h1, h2 | h2⟩ <;> omega), HLO7', HG4⟩
      case round =>
        obtain ⟨j, o2, hj, rfl, HR2, HP2, HLO2, HFW2⟩ := hrel
        obtain ⟨x0, x1, x2⟩ := mcells_of HFW2.out.2.1
        by_cases hl2 : j < i
        · have hjI : (j : Int) < (i : Int) := by omega
          have HJ := hid hl2
          have HJC : Hid (j < c) := by have := HI.out; show _ < _; omega
          have HQ0 : Hid (Fr5 w wr.drew p0 rb mb mb (MBox c c sa N ka) (MBox 0 0 none 0 0) (MBox c c (some ⟨g, 0, none⟩) N N) (MBox c c (some ⟨g, 0, none⟩) N N)) := HFW2.out.drew
          have HRD : Hid (wr.drew.rowIs g 51 N (fun k => .float .f64 (o2 k))) := HR2.out.of_block rfl
          have a1 := HXA.out _ (HPL.out i j HI.out HJC.out)
          have a2 := HXA.out _ (HPL.out j i HJC.out HI.out)
          obtain ⟨z, hz, hzl, _⟩ := fin_some ok_a w _ _ a1.1 a2.1 a1.2 a2.2
          have HZM : Hid (caf .quo z 4611686018427387904 = meaL f c i j) := by
            show _ = _
            unfold meaL zadd
            rw [if_neg (by omega), hz]
            rfl
          have hrun := f_add hz
          obtain ⟨x, hx⟩ : ∃ t, Hid (f (i * c + j) = t) := ⟨_, rfl⟩
          obtain ⟨y, hy⟩ : ∃ t, Hid (f (j * c + i) = t) := ⟨_, rfl⟩
          rw [hx.out, hy.out] at hrun
          clear hl2 a1 a2 hz hzl
          go_wp2_with fail
          refine wp_region_held_drew (S := fun W => (W.cell? ⟨mb, 0, none⟩ = some (.int .i64 c) ∧ W.cell? ⟨mb, 1, none⟩ = some (.int .i64 c) ∧ W.cell? ⟨mb, 2, none⟩ = some (.slice (some ⟨g, 0, none⟩) N N) ∧ W.cell? ⟨p0, 0, none⟩ = some (.int .i64 c) ∧ W.cell? ⟨p0, 1, none⟩ = some (.int .i64 c) ∧ W.cell? ⟨p0, 2, none⟩ = some (.slice sa N ka)) ∧ Hid (Fr5 w W p0 rb mb mb (MBox c c sa N ka) (MBox 0 0 none 0 0) (MBox c c (some ⟨g, 0, none⟩) N N) (MBox c c (some ⟨g, 0, none⟩) N N))) (by kernel_rfl) (HKS.out _ HQ0) (fun hHeld => ?_)
          refine take_at 0 37 (.agg #[.int .i64 c, .int .i64 c, .slice (some ⟨g, 0, none⟩) N N]) rfl rfl (by kernel_rfl) (by kernel_rfl) (by kernel_rfl) (fun _ _ _ h => h) (Or.inl ⟨by rfl, fun w hSw => by (try dsimp only at hSw); go_simp⟩) (by assumption) ?_
          simp only [Act.put, List.setIfInBounds_toArray, List.set_cons_zero, List.set_cons_succ]
          refine take_at 1 38 (.int .i64 i) rfl rfl (by kernel_rfl) (by kernel_rfl) (by kernel_rfl) (fun _ _ _ h => h) (Or.inl ⟨by rfl, fun w hSw => by (try dsimp only at hSw); go_simp⟩) (by assumption) ?_
          simp only [Act.put, List.setIfInBounds_toArray, List.set_cons_zero, List.set_cons_succ]
          refine take_at 2 39 (.int .i64 j) rfl rfl (by kernel_rfl) (by kernel_rfl) (by kernel_rfl) (fun _ _ _ h => h) (Or.inl ⟨by rfl, fun w hSw => by (try dsimp only at hSw); go_simp⟩) (by assumption) ?_
          simp only [Act.put, List.setIfInBounds_toArray, List.set_cons_zero, List.set_cons_succ]
          refine take_at 3 40 (.agg #[.int .i64 c, .int .i64 c, .slice sa N ka]) rfl rfl (by kernel_rfl) (by kernel_rfl) (by kernel_rfl) (fun _ _ _ h => h) (Or.inl ⟨by rfl, fun w hSw => by (try dsimp only at hSw); go_simp⟩) (by assumption) ?_
          simp only [Act.put, List.setIfInBounds_toArray, List.set_cons_zero, List.set_cons_succ]
          refine take_at 4 41 (.int .i64 i) rfl rfl (by kernel_rfl) (by kernel_rfl) (by kernel_rfl) (fun _ _ _ h => h) (Or.inl ⟨by rfl, fun w hSw => by (try dsimp only at hSw); go_simp⟩) (by assumption) ?_
          simp only [Act.put, List.setIfInBounds_toArray, List.set_cons_zero, List.set_cons_succ]
          refine take_at 5 42 (.int .i64 j) rfl rfl (by kernel_rfl) (by kernel_rfl) (by kernel_rfl) (fun _ _ _ h => h) (Or.inl ⟨by rfl, fun w hSw => by (try dsimp only at hSw); go_simp⟩) (by assumption) ?_
          simp only [Act.put, List.setIfInBounds_toArray, List.set_cons_zero, List.set_cons_succ]
          refine take_at 7 44 (.agg #[.int .i64 c, .int .i64 c, .slice sa N ka]) rfl rfl (by kernel_rfl) (by kernel_rfl) (by kernel_rfl) (fun _ _ _ h => h) (Or.inl ⟨by rfl, fun w hSw => by (try dsimp only at hSw); go_simp⟩) (by assumption) ?_
          simp only [Act.put, List.setIfInBounds_toArray, List.set_cons_zero, List.set_cons_succ]
          refine take_at 8 45 (.int .i64 j) rfl rfl (by kernel_rfl) (by kernel_rfl) (by kernel_rfl) (fun _ _ _ h => h) (Or.inl ⟨by rfl, fun w hSw => by (try dsimp only at hSw); go_simp⟩) (by assumption) ?_
          simp only [Act.put, List.setIfInBounds_toArray, List.set_cons_zero, List.set_cons_succ]
          refine take_at 9 46 (.int .i64 i) rfl rfl (by kernel_rfl) (by kernel_rfl) (by kernel_rfl) (fun _ _ _ h => h) (Or.inl ⟨by rfl, fun w hSw => by (try dsimp only at hSw); go_simp⟩) (by assumption) ?_
          simp only [Act.put, List.setIfInBounds_toArray, List.set_cons_zero, List.set_cons_succ]
          refine wpAnyH_ready (rs := [6]) (by kernel_rfl) (by simp) ?_
          refine AllReadyH.cons (o := _) rfl (fun K hK => ?_) AllReadyH.nil
          go_simp
          refine (HAT.out _ i j HQ0.out.1 HI.out HJC.out).mono ?_
          rintro e u1 ⟨rfl, hb1⟩
          have HG1 := hid (HQ0.out.call hb1)
          have HR1 : Hid (u1.rowIs g 51 N (fun k => .float .f64 (o2 k))) := HRD.out.of_block (hb1.block _ HRD.out.lt)
          rw [hx.out]
          clear hb1
          go_wp2_with fail
          refine hK.out _ _ (HKS.out _ HG1) (fun hHeld1 => ?_)
          clear hK K
          try simp only [Act.put, List.setIfInBounds_toArray, List.set_cons_zero, List.set_cons_succ]
          refine wpAnyH_ready (rs := [10]) (by kernel_rfl) (by simp) ?_
          refine AllReadyH.cons (o := _) rfl (fun K hK => ?_) AllReadyH.nil
          go_simp
          refine (HAT.out _ j i HG1.out.1 HJC.out HI.out).mono ?_
          rintro e u2 ⟨rfl, hb2⟩
          have HG2 := hid (HG1.out.call hb2)
          have HR2 : Hid (u2.rowIs g 51 N (fun k => .float .f64 (o2 k))) := HR1.out.of_block (hb2.block _ HR1.out.lt)
          rw [hy.out]
          clear hb2
          go_wp2_with fail
          refine hK.out _ _ (HKS.out _ HG2) (fun hHeld2 => ?_)
          clear hK K
          try simp only [Act.put, List.setIfInBounds_toArray, List.set_cons_zero, List.set_cons_succ]
          refine take_at 11 48 (.float .f64 z) rfl rfl (by kernel_rfl) (by kernel_rfl) (by kernel_rfl) (fun _ _ _ h => h) (Or.inl ⟨by rfl, fun w hSw => by (try dsimp only at hSw); go_simp⟩) (by assumption) ?_
          simp only [Act.put, List.setIfInBounds_toArray, List.set_cons_zero, List.set_cons_succ]
          have hbq : Below u2.heap.size u2 (quG z 4611686018427387904 u2) := bl_qu (Below.refl _ _) _ _
          have HG3 : Hid (Fr5 w (quG z 4611686018427387904 u2) p0 rb mb mb (MBox c c sa N ka) (MBox 0 0 none 0 0) (MBox c c (some ⟨g, 0, none⟩) N N) (MBox c c (some ⟨g, 0, none⟩) N N)) := HG2.out.call hbq
          have HR3 : Hid ((quG z 4611686018427387904 u2).rowIs g 51 N (fun k => .float .f64 (o2 k))) := HR2.out.of_block (hbq.block _ HR2.out.lt)
          have HQV : Hid (canonOf (quF z 4611686018427387904 u2) = meaL f c i j ∧ quF z 4611686018427387904 u2 < 18446744073709551616) := ⟨(canon_qu _ _ _).trans HZM.out, quF_lt _ _ _⟩
          clear hbq
          refine wpAnyH_ready (rs := [12]) (by kernel_rfl) (by simp) ?_
          refine AllReadyH.cons (o := _) rfl (fun K hK => ?_) AllReadyH.nil
          go_simp
          go_wp2_with fail
          refine hK.out _ _ (HKS.out _ HG3) (fun hHeld3 => ?_)
          clear hK K
          try simp only [Act.put, List.setIfInBounds_toArray, List.set_cons_zero, List.set_cons_succ]
          obtain ⟨u3, hu3⟩ : ∃ X, Hid (quG z 4611686018427387904 u2 = X) := ⟨_, rfl⟩
          obtain ⟨qq, hqq⟩ : ∃ X, Hid (quF z 4611686018427387904 u2 = X) := ⟨_, rfl⟩
          rw [hu3.out] at HG3 HR3
          rw [hqq.out] at HQV
          rw [hu3.out, hqq.out]
          refine wpAnyH_ready (rs := [13]) (by kernel_rfl) (by simp) ?_
          refine AllReadyH.cons (o := _) rfl (fun K hK => ?_) AllReadyH.nil
          go_simp
          refine (HPUT.out _ qq i j o2 HR3.out HI.out HJC.out).mono ?_
          rintro e u4 ⟨rfl, hu4⟩
          have hal : Below u3.heap.size u3 (u3.alloc (MBox c c (some ⟨g, 0, none⟩) N N)) := (Below.refl _ _).alloc (Nat.le_refl _) _
          have HG4 : Hid (Fr5 w u4 p0 rb mb mb (MBox c c sa N ka) (MBox 0 0 none 0 0) (MBox c c (some ⟨g, 0, none⟩) N N) (MBox c c (some ⟨g, 0, none⟩) N N)) := by rw [hu4]; exact (HG3.out.call hal).set HNE.out.1 HNE.out.2.1 HNE.out.2.2.1 HNE.out.2.2.1 HNE.out.2.2.2 _
          have HR4 : Hid (u4.rowIs g 51 N (fun t => .float .f64 (if t = i * c + j then qq else o2 t))) := by
            rw [hu4]
            refine ((HR3.out.of_block (hal.block _ HR3.out.lt)).set (i * c + j) _).congr (fun t _ => ?_)
            by_cases ht : t = i * c + j <;> simp [ht]
          clear hal hu4
          go_wp2_with fail
          refine hK.out _ _ (HKS.out _ HG4) (fun hHeld4 => ?_)
          clear hK K
          try simp only [Act.put, List.setIfInBounds_toArray, List.set_cons_zero, List.set_cons_succ]
          refine wpAnyH_done (by kernel_rfl) ?_ _
          go_wp2_with fail
          have hj1 := HJ.out
          have hi1 := HI.out
          refine ⟨⟨j + 1, fun t => if t = i * c + j then qq else o2 t, by omega, by go_num, HR4, fun a b hab => ?_, fun k => ?_, HG4⟩, ?_⟩
          · dsimp only
            by_cases h : a * c + b = i * c + j
            · obtain ⟨ea, eb⟩ := place_ne (by rcases hab with h | ⟨h1, h2 | h2⟩ <;> omega) (by omega) h
              subst ea eb
              rw [if_pos rfl]
              exact HQV.out.1
            · rw [if_neg h]
              refine HP2.out a b ?_
              rcases hab with h1 | ⟨h1, h2 | h2⟩
              · exact Or.inl h1
              · exact Or.inr ⟨h1, Or.inl h2⟩
              · have : b ≠ j := fun hc => h (by rw [h1, hc])
                exact Or.inr ⟨h1, Or.inr (by omega)⟩
          · dsimp only
            by_cases h : k = i * c + j
            · rw [if_pos h]; exact HQV.out.2
            · rw [if_neg h]; exact HLO2.out k
          · simp [intOf]; omega
        · obtain rfl : j = i := by omega
          go_wp2_with fail
          have hi1 := HI.out
          refine ⟨⟨j + 1, o2, by omega, by go_num, HR2, fun a b ha hb => HP2.out a b (by omega), HLO2, HFW2⟩, ?_⟩
          simp [intOf]; omega
    · obtain rfl : i = c := by omega
      obtain ⟨m0, m1, m2⟩ := mcells_of HFW.out.2.2.2.1
      have h144 := HNN.out.2
      have HFN := hid (rowF (HR.out) (fun k _ => HLO.out k) h144)
      have HMI := hid (Mirrored_any i N _ N o2 wr HFN.out l12 hN.out.symm)
      unfold MV at HMI
      go_wp2_with fail
      refine HMI.out.mono ?_
      rintro e w2 ⟨hm, hb2⟩
      obtain ⟨g2, o3, rfl, _, hf3, hs3, hv3⟩ := hm.fn (by rw [hN.out]; omega)
      have HF3 := hid hf3
      have HV3 : Hid (∀ a b, a < i → b < i → canonOf (o3 (a * i + b)) = meaV f i a b) := fun a b ha hb => by
        unfold meaV
        by_cases h : b ≤ a
        · rw [if_pos h, hv3 a b ha h]; exact HP.out a b ha h
        · rw [if_neg h, hs3 a b ha hb, hv3 b a hb (by omega)]; exact HP.out b a hb (by omega)
      have HFR2 := hid (HFW.out.call hb2)
      rw [hN.out] at HF3
      have HFO := hid (Over_any i i N _ N o3 w2 HF3.out (by omega))
      obtain ⟨X0, X1, X2, X3, X4, hXX⟩ : ∃ a b s l k, Hid ((if finF N o3 = true then MV i i (some ⟨g2, 0, none⟩) N N else MV 0 0 none 0 0) = MV a b s l k) := by
        by_cases q : finF N o3 = true
        · exact ⟨i, i, _, _, _, by show _ = _; rw [if_pos q]⟩
        · exact ⟨0, 0, _, _, _, by show _ = _; rw [if_neg q]⟩
      obtain ⟨E, hE⟩ : ∃ E, Hid ((if finF N o3 = true then 0 else 5 : Int) = E) := ⟨_, rfl⟩
      rw [hXX.out, hE.out] at HFO
      unfold MV at HFO
      unfold MV
      rw [hN.out]
      clear hm hb2 hf3 hs3 hv3
      go_wp2_with fail
      refine HFO.out.mono ?_
      rintro e w3 ⟨rfl, hk3, hb3⟩
      have HFR3 := hid (HFR2.out.call hb3)
      have HFN3 := hid (hk3 _ _ _ _ HF3.out)
      obtain ⟨y0, y1, y2⟩ := mcells_of HFR3.out.2.2.1
      have fz := frzM HFR3.out.2.2.1
      clear hb3 hk3
      go_wp2_with fail
      exact bodyPost_ret (v := AnsM i i N g2 o3) (by unfold AnsM; rw [hXX.out, hE.out]; simp [results, Try.results73, go_sem, y0, y1, y2, MV]) rfl ⟨⟨g2, o3, rfl, StoM.fn HFN3.out HFR3.out.2.2.1, HV3.out⟩, StoM.below HFR3.out.1 HRB.out⟩
end Go.Proofs.Ythnblidkbcficaa
