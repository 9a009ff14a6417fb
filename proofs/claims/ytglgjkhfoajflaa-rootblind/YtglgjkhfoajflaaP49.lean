
/- The law RootBlind. (Written by mkrtl.py.) -/
import Derived.Test.YtglgjkhfoajflaaP48
import Derived.Test.YtglgjkhfoajflaaP29
import Derived.Test.YtglgjkhfoajflaaP19
namespace Go.Proofs.Ytglgjkhfoajflaa
open Go.RowKit Go.IntWalk

theorem fstoreR (W : World) (a : Addr) (x : Nat) : (store a (.float .f64 x)).run Try.prog W = stored Try.prog W a (.float .f64 x) .plain := run_store _ _ _ _ _ rfl
theorem gt_pos {R : Nat} (hR : R < 18446744073709551616) (h : FloatKind.f64.format.order R 0 = some .gt) (hi : ¬ R % 9223372036854775808 = 9218868437227405312) : R < 9218868437227405312 ∧ R ≠ 0 := by
  have h1 : R % 9223372036854775808 ≤ 9218868437227405312 := by
    apply Classical.byContradiction
    intro c
    rw [order_nan_l R 0 (by omega)] at h
    cases h
  have h2 := gt_key R 0 hR (by decide) h
  unfold keyOf at h2
  have h3 : R < 9223372036854775808 ∧ R ≠ 0 := by
    simp at h2
    constructor <;> (split at h2 <;> omega)
  rw [Nat.mod_eq_of_lt h3.1] at h1 hi
  exact ⟨by omega, h3.2⟩
theorem fin_exp2 {Z : Nat} (hZ : Z < 18446744073709551616) (h : (expOf Z == 2047) = false) : FinN Z := by
  refine ⟨hZ, fin_of ?_⟩
  rw [← fin_sgl]
  unfold finM
  simp only [List.all_cons, List.all_nil, Bool.and_true]
  rw [h]
  rfl
theorem dj_new {ux ul : Option Addr} {W : World} {b : Nat} {o : Obj} (h : (∀ g, ux = some ⟨g, 0, none⟩ → W.heap.size ≤ g) ∧ ∀ g, ul = some ⟨g, 0, none⟩ → W.heap.size ≤ g) (hb : W.heap[b]? = some o) : DjR ux ul b := by
  have := (Array.getElem?_eq_some_iff.1 hb).1
  exact ⟨fun g e => by have := h.1 g e; omega, fun g e => by have := h.2 g e; omega⟩
theorem dj_old {ux ul : Option Addr} {N b : Nat} (h : (∀ g, ux = some ⟨g, 0, none⟩ → g < N) ∧ ∀ g, ul = some ⟨g, 0, none⟩ → g < N) (hb : N = b) : DjR ux ul b := ⟨fun g e => by have := h.1 g e; omega, fun g e => by have := h.2 g e; omega⟩
theorem eq_l {a b : Nat} (h : a = b) (hf : FinN b) : (FloatKind.f64.format.order a b != some .eq) = false := by
  subst h
  rw [order_self a hf.1]
  exact decide_eq_false (by have := hf.2; omega)
theorem eq_x {a b : Nat} (h : a = b ∨ (b = 9223372036854775808 ∧ a = 0)) (hf : FinN b) : (FloatKind.f64.format.order a b != some .eq) = false := by
  rcases h with h | ⟨rfl, rfl⟩
  · exact eq_l h hf
  · decide +kernel
theorem zfin {n : Nat} {r c : Int} {m : Nat} {zs xs : List Nat} {W : World} {s : Option Addr} {k : Nat} (hE : rootE zs n r c m xs = 0) (h : FlM W s n k zs) {i : Nat} (hi : i < n) : FinN (zs.getD i 0) := by
  have h1 := fin_get h.1 (rootE_zero hE).2.2.2.1
  exact fin_exp2 (fn_lt h.fn i hi) ((finF_iff _ _).1 h1 i hi)
theorem xfin {n m : Nat} {W : World} {s : Option Addr} {k : Nat} {f : Nat → Nat} (h : Gd W n n s m k f) (hm : m = n * n) (i : Nat) (hi : i < n * n) : FinN (f i) := by
  have h1 := (finF_iff _ _).1 h.2.2.2.2 i (by omega)
  exact fin_exp2 (fn_lt h.2.2.2.1 i (by omega)) h1
set_option maxRecDepth 20000 in
set_option maxHeartbeats 16000000 in
theorem rblind_walk (sx : Option Addr) (n kx : Nat) (zs : List Nat) (r c : Int) (sm : Option Addr) (m km : Nat) (xs : List Nat) (R Z : Nat) (w : World) (hu : U64At w sx n zs) (hn : n ≤ 17592186043904) (hv : U64At w sm m xs) (hm : m ≤ 17592186043904) (hR : R < 18446744073709551616) (hZ : Z < 18446744073709551616) :
    Calls Try.prog 4 #[.slice sx n kx, .agg #[.int .i64 r, .int .i64 c, .slice sm m km], .int .u64 (R : Int), .int .u64 (Z : Int)] w fun e w' => e = .returned (.bool true) ∧ Below w.heap.size w w' := by
  have HAW := hid awake16_any
  have HOF := hid (fun W (hW : Below w.heap.size w W) => of16_any sx n kx zs r c sm m km xs W (hu.below hW) hn (hv.below hW) hm)
  have HNM := hid (And.intro hn hm)
  have HRZ := hid (And.intro hR hZ)
  have HFR : Hid (∀ W, Calls Try.prog 9 #[.int .u64 (R : Int)] W fun e w' => e = .returned (.float .f64 R) ∧ w' = W) := fun W => f16_any R W
  have HFZ : Hid (∀ W, Calls Try.prog 9 #[.int .u64 (Z : Int)] W fun e w' => e = .returned (.float .f64 Z) ∧ w' = W) := fun W => f16_any Z W
  have HIN := hid (fun W => isinfq_fl R W hR)
  have HFI := hid (fun W => rfinite_any Z W hZ)
  have HSM := hid (fun A W => same16_any A R W hR)
  have HA0 : Hid ((w.alloc (B6Box r c sm m km)).heap[w.heap.size]? = some (B6Box r c sm m km)) := nblkM _ _
  have HB : Hid (Below w.heap.size w (w.alloc (B6Box r c sm m km))) := (Below.refl _ _).alloc (Nat.le_refl _) _
  obtain ⟨V, hV⟩ : ∃ t, Hid (w.alloc (B6Box r c sm m km) = t) := ⟨_, rfl⟩
  obtain ⟨p5, hp5⟩ : ∃ t, Hid (w.heap.size = t) := ⟨_, rfl⟩
  rw [hV.out] at HA0 HB
  rw [hp5.out] at HA0
  have hV' := hV.out
  unfold B6Box at hV'
  have hp5' := hp5.out
  clear hu hv hn hm hR hZ
  go_enter Try.func4, Try.ntmps4
  go_wp2_with fail
  refine (HAW.out V).mono ?_
  rintro e w1 ⟨rfl, hb⟩
  have HB1 := hid (HB.out.trans (hb.mono HB.out.size))
  obtain ⟨x0, x1, x2⟩ := b6cells_of (blkM HA0.out hb)
  clear hb
  go_wp2_with fail
  refine (HOF.out w1 HB1.out).mono ?_
  rintro e w2 ⟨⟨ta, ca, tb, cb, rfl, hf1, hf2⟩, hb⟩
  have HB2 := hid (HB1.out.trans (hb.mono HB1.out.size))
  have al : Below w2.heap.size w2 (w2.alloc (RBox ta n ca r c tb m cb)) := (Below.refl _ _).alloc (Nat.le_refl _) _
  have HX2 := hid (hf1.below al)
  have HM2 := hid (hf2.below al)
  have HQ2 := hid (nblkM w2 (RBox ta n ca r c tb m cb))
  have HB3 := hid (HB2.out.trans (al.mono HB2.out.size))
  obtain ⟨V2, hV2⟩ : ∃ t, Hid (w2.alloc (RBox ta n ca r c tb m cb) = t) := ⟨_, rfl⟩
  obtain ⟨q9, hq9⟩ : ∃ t, Hid (w2.heap.size = t) := ⟨_, rfl⟩
  rw [hV2.out] at HX2 HM2 HQ2 HB3
  rw [hq9.out] at HQ2
  have hV2' := hV2.out
  unfold RBox at hV2'
  have hq9' := hq9.out
  obtain ⟨x0, x1, x2, x3⟩ := rcells_of HQ2.out
  have HCK := hid (rcheck_any ta n ca zs r c tb m cb xs V2 HX2.out HNM.out.1 HM2.out HNM.out.2)
  unfold RV at HCK
  obtain ⟨E, hE⟩ : ∃ t, Hid (rootE zs n r c m xs = t) := ⟨_, rfl⟩
  rw [hE.out] at HCK
  clear hb hf1 hf2 al
  go_wp2_with fail
  refine HCK.out.mono ?_
  rintro e w3 ⟨rfl, hb⟩
  have HB4 := hid (HB3.out.trans (hb.mono HB3.out.size))
  have HX3 := hid (HX2.out.below hb)
  have HM3 := hid (HM2.out.below hb)
  have HQ3 := hid (blkM HQ2.out hb)
  clear hb
  by_cases hE0 : E = 0
  · subst hE0
    obtain ⟨x0, x1, x2, x3⟩ := rcells_of HQ3.out
    by_cases hgt : FloatKind.f64.format.order R 0 = some .gt
    · have h1 : (FloatKind.f64.format.order R 0 == some .gt) = true := by rw [hgt]; rfl
      by_cases hi : R % 9223372036854775808 = 9218868437227405312
      · have h2 : decide (R % 9223372036854775808 = 9218868437227405312) = true := decide_eq_true hi
        rw [h2] at HIN
        go_wp2_with fail
        refine (HFR.out w3).mono ?_
        rintro e ww ⟨rfl, hw⟩
        rw [hw]
        clear hw
        go_wp2_with fail
        refine (HFR.out w3).mono ?_
        rintro e ww ⟨rfl, hw⟩
        rw [hw]
        clear hw
        go_wp2_with fail
        refine (HIN.out w3).mono ?_
        rintro e ww ⟨rfl, hw⟩
        rw [hw]
        clear hw
        go_wp2_with fail
        go_ret
        first | exact ⟨rfl, HB4.out⟩ | exact ⟨rfl, hp5.out ▸ HB4.out⟩
      · by_cases hz : (expOf Z == 2047) = true
        · have h2 : decide (R % 9223372036854775808 = 9218868437227405312) = false := decide_eq_false hi
          rw [h2] at HIN
          have h3 : (expOf Z == 2047) = true := by simpa using hz
          rw [h3] at HFI
          go_wp2_with fail
          refine (HFR.out w3).mono ?_
          rintro e ww ⟨rfl, hw⟩
          rw [hw]
          clear hw
          go_wp2_with fail
          refine (HFR.out w3).mono ?_
          rintro e ww ⟨rfl, hw⟩
          rw [hw]
          clear hw
          go_wp2_with fail
          refine (HIN.out w3).mono ?_
          rintro e ww ⟨rfl, hw⟩
          rw [hw]
          clear hw
          go_wp2_with fail
          refine (HFZ.out w3).mono ?_
          rintro e ww ⟨rfl, hw⟩
          rw [hw]
          clear hw
          go_wp2_with fail
          refine (HFI.out w3).mono ?_
          rintro e ww ⟨rfl, hw⟩
          rw [hw]
          clear hw
          go_wp2_with fail
          go_ret
          first | exact ⟨rfl, HB4.out⟩ | exact ⟨rfl, hp5.out ▸ HB4.out⟩
        · have h3 : (expOf Z == 2047) = false := by simpa using hz
          rw [h3] at HFI
          have HRP : Hid (R < 9218868437227405312 ∧ R ≠ 0) := gt_pos HRZ.out.1 hgt hi
          have HZF : Hid (FinN Z) := fin_exp2 HRZ.out.2 h3
          obtain ⟨er, ec, _, _, _, _⟩ := rootE_zero hE.out
          subst er
          subst ec
          have HE := hid hE.out
          have HGD := hid (gd_own_r HM3.out (rootE_zero hE.out).2.2.1)
          have HN12 : Hid (n ≤ 12) := HGD.out.1
          have HUPD := hid (fun W g (hW : Below w3.heap.size w3 W) (hg : FlM W (some ⟨g, 0, none⟩) n n (List.replicate n 0)) => Upd_blind n m cb ca n R Z ta tb (some ⟨g, 0, none⟩) zs xs W (HX3.out.below hW) (HM3.out.below hW) hg hE.out (by rw [hgt]; rfl) (by rw [hgt]; rfl) HRP.out.1 HRP.out.2 HZF.out)
          have HFR2 : Hid (∀ W, Calls Try.prog 9 #[.int .u64 (R : Int)] W fun e w' => e = .returned (.float .f64 R) ∧ Below W.heap.size W w') := fun W => (HFR.out W).mono (by rintro e w' ⟨h, rfl⟩; exact ⟨h, Below.refl _ _⟩)
          have HFZ2 : Hid (∀ W, Calls Try.prog 9 #[.int .u64 (Z : Int)] W fun e w' => e = .returned (.float .f64 Z) ∧ Below W.heap.size W w') := fun W => (HFZ.out W).mono (by rintro e w' ⟨h, rfl⟩; exact ⟨h, Below.refl _ _⟩)
          have h1 : (FloatKind.f64.format.order R 0 == some .gt) = true := by rw [hgt]; rfl
          have h2 : decide (R % 9223372036854775808 = 9218868437227405312) = false := decide_eq_false hi
          rw [h2] at HIN
          have HGT := hid hgt
          clear hgt hi hz
          go_wp2_with fail
          refine (HFR.out w3).mono ?_
          rintro e ww ⟨rfl, hw⟩
          rw [hw]
          clear hw
          go_wp2_with fail
          refine (HFR.out w3).mono ?_
          rintro e ww ⟨rfl, hw⟩
          rw [hw]
          clear hw
          go_wp2_with fail
          refine (HIN.out w3).mono ?_
          rintro e ww ⟨rfl, hw⟩
          rw [hw]
          clear hw
          go_wp2_with fail
          refine (HFZ.out w3).mono ?_
          rintro e ww ⟨rfl, hw⟩
          rw [hw]
          clear hw
          go_wp2_with fail
          refine (HFI.out w3).mono ?_
          rintro e ww ⟨rfl, hw⟩
          rw [hw]
          clear hw
          have hmk := run_make_row' (P := Try.prog) 32 28 (.float .f64 0) 8 Try.underlying32 info_fM rfl .i64 .i64 n (by have := HN12.out; omega) (by have := HN12.out; omega)
          have HKT : Hid (∀ W, Below w3.heap.size w3 W → W.cell? ⟨q9, 0, none⟩ = some (.slice ta n ca) ∧ W.cell? ⟨q9, 1, none⟩ = some (.int .i64 n) ∧ W.cell? ⟨q9, 2, none⟩ = some (.int .i64 n) ∧ W.cell? ⟨q9, 3, none⟩ = some (.slice tb m cb)) := fun W hW => rcells_of (blkM HQ3.out hW)
          have HQ0 : Hid (FrQ w3 w3.drew [] []) := (FrQ.start w3).drew
          clear h1 h2 h3
          go_wp2_with fail
          refine region_merge2 (fun a0 a' w' => ∃ (g4 t10 t11 : Nat) (ux : Option Addr) (k1 k2 : Nat) (r1 c1 : Int) (ul : Option Addr) (k3 k4 Y A S1 : Nat) (ug : Option Addr) (k5 k6 : Nat) (EE : Int), a' = Act.put (Act.put (Act.put (Act.put (Act.put (Act.put (Act.put (Act.put (Act.put (Act.put (Act.put (Act.put (Act.put (Act.put (Act.put (Act.put (Act.put (a0) (some 41) (.agg #[.slice ta n ca, .int .i64 n, .int .i64 n, .slice tb m cb])) (some 42) (.pointer (some ⟨q9, 0, none⟩))) (some 43) (.slice ta n ca)) (some 44) (.int .i64 n)) (some 46) (.int .u64 R)) (some 48) (.int .u64 Z)) (some 47) (.float .f64 R)) (some 49) (.float .f64 Z)) (some 45) (.slice (some ⟨g4, 0, none⟩) n n)) (some 50) (.tuple #[.agg #[.slice ux k1 k2, .int .i64 r1, .int .i64 c1, .slice ul k3 k4], .agg #[.float .f64 Y, .float .f64 A, .float .f64 S1, .slice ug k5 k6], .int .i64 EE])) (some 40) (.tuple #[.agg #[.slice ux k1 k2, .int .i64 r1, .int .i64 c1, .slice ul k3 k4], .agg #[.float .f64 Y, .float .f64 A, .float .f64 S1, .slice ug k5 k6], .int .i64 EE])) (some 51) (.agg #[.slice ux k1 k2, .int .i64 r1, .int .i64 c1, .slice ul k3 k4])) (some 52) (.agg #[.float .f64 Y, .float .f64 A, .float .f64 S1, .slice ug k5 k6])) (some 53) (.int .i64 EE)) (some 10) (.pointer (some ⟨t10, 0, none⟩))) (some 11) (.pointer (some ⟨t11, 0, none⟩))) (some 12) (.int .i64 EE) ∧ Below w3.heap.size w3 w' ∧ w'.heap[t10]? = some (RBox ux k1 k2 r1 c1 ul k3 k4) ∧ w'.heap[t11]? = some (StBox Y A S1 ug k5 k6) ∧ BlR EE n zs xs R w' ux k1 k2 ul k3 k4 A) (fun HR => ?_) ?_
          · as_aux_lemma =>
              simp only [Act.put, List.setIfInBounds_toArray, List.set_cons_zero, List.set_cons_succ] at HR
              refine wp_region_held_drew (S := fun W => W.cell? ⟨q9, 0, none⟩ = some (.slice ta n ca) ∧ W.cell? ⟨q9, 1, none⟩ = some (.int .i64 n) ∧ W.cell? ⟨q9, 2, none⟩ = some (.int .i64 n) ∧ W.cell? ⟨q9, 3, none⟩ = some (.slice tb m cb)) (by kernel_rfl) (HKT.out _ HQ0.out.bel) (fun hHeld => ?_)
              refine take_at 0 41 (.agg #[.slice ta n ca, .int .i64 n, .int .i64 n, .slice tb m cb]) rfl rfl (by kernel_rfl) (by kernel_rfl) (by kernel_rfl) (fun _ _ _ h => h) (Or.inl ⟨by rfl, fun w hSw => by (try dsimp only at hSw); go_simp⟩) (by assumption) ?_
              simp only [Act.put, List.setIfInBounds_toArray, List.set_cons_zero, List.set_cons_succ]
              refine take_at 1 42 (.pointer (some ⟨q9, 0, none⟩)) rfl rfl (by kernel_rfl) (by kernel_rfl) (by kernel_rfl) (fun _ _ _ h => h) (Or.inl ⟨by rfl, fun w hSw => by (try dsimp only at hSw); go_simp⟩) (by assumption) ?_
              simp only [Act.put, List.setIfInBounds_toArray, List.set_cons_zero, List.set_cons_succ]
              refine take_at 2 43 (.slice ta n ca) rfl rfl (by kernel_rfl) (by kernel_rfl) (by kernel_rfl) (fun _ _ _ h => h) (Or.inl ⟨by rfl, fun w hSw => by (try dsimp only at hSw); go_simp⟩) (by assumption) ?_
              simp only [Act.put, List.setIfInBounds_toArray, List.set_cons_zero, List.set_cons_succ]
              refine take_at 3 44 (.int .i64 n) rfl rfl (by kernel_rfl) (by kernel_rfl) (by kernel_rfl) (fun _ _ _ h => h) (Or.inl ⟨by rfl, fun w hSw => by (try dsimp only at hSw); go_simp⟩) (by assumption) ?_
              simp only [Act.put, List.setIfInBounds_toArray, List.set_cons_zero, List.set_cons_succ]
              refine take_at 5 46 (.int .u64 R) rfl rfl (by kernel_rfl) (by kernel_rfl) (by kernel_rfl) (fun _ _ _ h => h) (Or.inl ⟨by rfl, fun w hSw => by (try dsimp only at hSw); go_simp⟩) (by assumption) ?_
              simp only [Act.put, List.setIfInBounds_toArray, List.set_cons_zero, List.set_cons_succ]
              refine take_at 7 48 (.int .u64 Z) rfl rfl (by kernel_rfl) (by kernel_rfl) (by kernel_rfl) (fun _ _ _ h => h) (Or.inl ⟨by rfl, fun w hSw => by (try dsimp only at hSw); go_simp⟩) (by assumption) ?_
              simp only [Act.put, List.setIfInBounds_toArray, List.set_cons_zero, List.set_cons_succ]
              refine dag_open (fun G A0 hG hA => ?_)
              have HS3abc : Hid (∀ (W : World) (ux : Option Addr) (k1 k2 : Nat) (r1 c1 : Int) (ul : Option Addr) (k3 k4 Y A S1 : Nat) (ug : Option Addr) (k5 k6 : Nat) (EE : Int) (g4 t10 t11 : Nat), Hid (FrQ w3 W [(t11, StBox 0 0 0 none 0 0), (t10, RBox none 0 0 0 0 none 0 0), (g4, (.cells (madeCells #[.float .f64 0] n) 28))] [fun _ => DjR ux ul t11, fun _ => DjR ux ul t10, fun W => BlR EE n zs xs R W ux k1 k2 ul k3 k4 A]) → G 3 #[true, true, true, true, true, true, true, true, true, true, true, true, true, true, true, true, false, false, false] (Act.put (Act.put (Act.put (Act.put (Act.put (Act.put (Act.put (Act.put (Act.put (Act.put (A0) (some 47) (.float .f64 R)) (some 49) (.float .f64 Z)) (some 50) (.tuple #[.agg #[.slice ux k1 k2, .int .i64 r1, .int .i64 c1, .slice ul k3 k4], .agg #[.float .f64 Y, .float .f64 A, .float .f64 S1, .slice ug k5 k6], .int .i64 EE])) (some 40) (.tuple #[.agg #[.slice ux k1 k2, .int .i64 r1, .int .i64 c1, .slice ul k3 k4], .agg #[.float .f64 Y, .float .f64 A, .float .f64 S1, .slice ug k5 k6], .int .i64 EE])) (some 51) (.agg #[.slice ux k1 k2, .int .i64 r1, .int .i64 c1, .slice ul k3 k4])) (some 52) (.agg #[.float .f64 Y, .float .f64 A, .float .f64 S1, .slice ug k5 k6])) (some 53) (.int .i64 EE)) (some 45) (.slice (some ⟨g4, 0, none⟩) n n)) (some 10) (.pointer (some ⟨t10, 0, none⟩))) (some 11) (.pointer (some ⟨t11, 0, none⟩))) W) := fun W ux k1 k2 r1 c1 ul k3 k4 Y A S1 ug k5 k6 EE g4 t10 t11 HQ => by
                rw [hG.out, hA.out]
                simp only [Act.put, List.setIfInBounds_toArray, List.set_cons_zero, List.set_cons_succ]
                have hB := HQ.out.get (g := fun W => BlR EE n zs xs R W ux k1 k2 ul k3 k4 A) 2 rfl
                have hT := HQ.out.get (g := fun _ => DjR ux ul t10) 1 rfl
                have hU := HQ.out.get (g := fun _ => DjR ux ul t11) 0 rfl
                have z0 : W.heap[t11]? = some (StBox 0 0 0 none 0 0) := HQ.out.at 0 rfl
                have z1 : W.heap[t10]? = some (RBox none 0 0 0 0 none 0 0) := HQ.out.at 1 rfl
                have zb0 := (HQ.out.box (t11, StBox 0 0 0 none 0 0) (by simp)).2
                have zb1 := (HQ.out.box (t10, RBox none 0 0 0 0 none 0 0) (by simp)).2
                have hne : t10 ≠ t11 := by have hn := HQ.out.nod; simp only [List.map_cons, List.map_nil, List.nodup_cons, List.mem_cons, List.not_mem_nil, or_false, not_or, not_false_iff, List.nodup_nil, and_true] at hn; omega
                obtain ⟨c0, c1x, c2, c3⟩ := rcells_of z1
                have fz1 := rfrz z1
                have hbW := HQ.out.bel
                have b1 : Below w3.heap.size w3 ((((W.setCell ⟨t10, 0, none⟩ (.slice ux k1 k2)).setCell ⟨t10, 1, none⟩ (.int .i64 r1)).setCell ⟨t10, 2, none⟩ (.int .i64 c1)).setCell ⟨t10, 3, none⟩ (.slice ul k3 k4)) := rsto_below hbW zb1 _ _ _ _
                have y1 : ((((W.setCell ⟨t10, 0, none⟩ (.slice ux k1 k2)).setCell ⟨t10, 1, none⟩ (.int .i64 r1)).setCell ⟨t10, 2, none⟩ (.int .i64 c1)).setCell ⟨t10, 3, none⟩ (.slice ul k3 k4)).heap[t10]? = some (RBox ux k1 k2 r1 c1 ul k3 k4) := set4 z1
                have y0 : ((((W.setCell ⟨t10, 0, none⟩ (.slice ux k1 k2)).setCell ⟨t10, 1, none⟩ (.int .i64 r1)).setCell ⟨t10, 2, none⟩ (.int .i64 c1)).setCell ⟨t10, 3, none⟩ (.slice ul k3 k4)).heap[t11]? = some (StBox 0 0 0 none 0 0) := by rw [set_keepM hne.symm, set_keepM hne.symm, set_keepM hne.symm, set_keepM hne.symm]; exact z0
                have hB1 := hB.sto hT (.slice ux k1 k2) (.int .i64 r1) (.int .i64 c1) (.slice ul k3 k4)
                refine wpAnyH_ready (rs := [16]) (by kernel_rfl) (by simp) ?_
                refine AllReadyH.cons (o := _) rfl (fun K hK => ?_) AllReadyH.nil
                go_simp
                go_wp2_with fail
                refine hK.out _ _ (HKT.out _ b1) (fun hHeld1 => ?_)
                clear hK K
                try simp only [List.setIfInBounds_toArray, List.set_cons_zero, List.set_cons_succ]
                obtain ⟨W1, hW1⟩ : ∃ t, Hid (((((W.setCell ⟨t10, 0, none⟩ (.slice ux k1 k2)).setCell ⟨t10, 1, none⟩ (.int .i64 r1)).setCell ⟨t10, 2, none⟩ (.int .i64 c1)).setCell ⟨t10, 3, none⟩ (.slice ul k3 k4)) = t) := ⟨_, rfl⟩
                rw [hW1.out] at b1 y1 y0 hB1
                try rw [hW1.out]
                obtain ⟨d0, d1, d2, d3⟩ := scells_of y0
                have fz2 := sfrz y0
                have b2 : Below w3.heap.size w3 ((((W1.setCell ⟨t11, 0, none⟩ (.float .f64 Y)).setCell ⟨t11, 1, none⟩ (.float .f64 A)).setCell ⟨t11, 2, none⟩ (.float .f64 S1)).setCell ⟨t11, 3, none⟩ (.slice ug k5 k6)) := ssto_below b1 zb0 _ _ _ _
                have v0 : ((((W1.setCell ⟨t11, 0, none⟩ (.float .f64 Y)).setCell ⟨t11, 1, none⟩ (.float .f64 A)).setCell ⟨t11, 2, none⟩ (.float .f64 S1)).setCell ⟨t11, 3, none⟩ (.slice ug k5 k6)).heap[t11]? = some (StBox Y A S1 ug k5 k6) := set4 y0
                have v1 : ((((W1.setCell ⟨t11, 0, none⟩ (.float .f64 Y)).setCell ⟨t11, 1, none⟩ (.float .f64 A)).setCell ⟨t11, 2, none⟩ (.float .f64 S1)).setCell ⟨t11, 3, none⟩ (.slice ug k5 k6)).heap[t10]? = some (RBox ux k1 k2 r1 c1 ul k3 k4) := by rw [set_keepM hne, set_keepM hne, set_keepM hne, set_keepM hne]; exact y1
                have hB2 := hB1.sto hU (.float .f64 Y) (.float .f64 A) (.float .f64 S1) (.slice ug k5 k6)
                clear c0 c1x c2 c3 fz1
                have hst := fstoreR
                refine wpAnyH_ready (rs := [17]) (by kernel_rfl) (by simp) ?_
                refine AllReadyH.cons (o := _) rfl (fun K hK => ?_) AllReadyH.nil
                go_simp
                go_wp2_with fail
                refine hK.out _ _ (HKT.out _ b2) (fun hHeld2 => ?_)
                clear hK K hst
                try simp only [List.setIfInBounds_toArray, List.set_cons_zero, List.set_cons_succ]
                refine take_at 18 12 (.int .i64 EE) rfl rfl (by kernel_rfl) (by kernel_rfl) (by kernel_rfl) (fun _ _ _ h => h) (Or.inl ⟨by rfl, fun w hSw => by (try dsimp only at hSw); go_simp⟩) (by assumption) ?_
                simp only [Act.put, List.setIfInBounds_toArray, List.set_cons_zero, List.set_cons_succ]
                refine wpAnyH_done (by kernel_rfl) ?_ _
                exact HR.out _ _ ⟨g4, t10, t11, ux, k1, k2, r1, c1, ul, k3, k4, Y, A, S1, ug, k5, k6, EE, rfl, b2, v1, v0, hB2⟩
              have HS3ab : Hid (∀ (W : World) (ux : Option Addr) (k1 k2 : Nat) (r1 c1 : Int) (ul : Option Addr) (k3 k4 Y A S1 : Nat) (ug : Option Addr) (k5 k6 : Nat) (EE : Int) (g4 t10 : Nat), Hid (FrQ w3 W [(t10, RBox none 0 0 0 0 none 0 0), (g4, (.cells (madeCells #[.float .f64 0] n) 28))] [fun _ => DjR ux ul t10, fun W => BlR EE n zs xs R W ux k1 k2 ul k3 k4 A]) → G 4 #[true, true, true, true, true, true, true, true, true, true, true, true, true, true, true, false, false, false, false] (Act.put (Act.put (Act.put (Act.put (Act.put (Act.put (Act.put (Act.put (Act.put (A0) (some 47) (.float .f64 R)) (some 49) (.float .f64 Z)) (some 50) (.tuple #[.agg #[.slice ux k1 k2, .int .i64 r1, .int .i64 c1, .slice ul k3 k4], .agg #[.float .f64 Y, .float .f64 A, .float .f64 S1, .slice ug k5 k6], .int .i64 EE])) (some 40) (.tuple #[.agg #[.slice ux k1 k2, .int .i64 r1, .int .i64 c1, .slice ul k3 k4], .agg #[.float .f64 Y, .float .f64 A, .float .f64 S1, .slice ug k5 k6], .int .i64 EE])) (some 51) (.agg #[.slice ux k1 k2, .int .i64 r1, .int .i64 c1, .slice ul k3 k4])) (some 52) (.agg #[.float .f64 Y, .float .f64 A, .float .f64 S1, .slice ug k5 k6])) (some 53) (.int .i64 EE)) (some 45) (.slice (some ⟨g4, 0, none⟩) n n)) (some 10) (.pointer (some ⟨t10, 0, none⟩))) W) := fun W ux k1 k2 r1 c1 ul k3 k4 Y A S1 ug k5 k6 EE g4 t10 HQ => by
                rw [hG.out, hA.out]
                simp only [Act.put, List.setIfInBounds_toArray, List.set_cons_zero, List.set_cons_succ]
                refine wpAnyH_ready (rs := [15]) (by kernel_rfl) (by simp) ?_
                refine AllReadyH.cons (o := _) rfl (fun K hK => ?_) AllReadyH.nil
                have hold := BlR.old (HQ.out.get (g := fun W => BlR EE n zs xs R W ux k1 k2 ul k3 k4 A) 1 rfl)
                go_simp
                go_wp2_with fail
                have HQ := hid (HQ.out.alloc (StBox 0 0 0 none 0 0))
                refine hK.out _ _ (HKT.out _ HQ.out.bel) (fun hHeld => ?_)
                clear hK K
                try simp only [List.setIfInBounds_toArray, List.set_cons_zero, List.set_cons_succ]
                obtain ⟨X, hX, HQ⟩ := frq_name HQ.out
                obtain ⟨t11, ht11, HQ⟩ := frq_head HQ.out
                have hy := hX.out
                unfold StBox at hy
                have hz := ht11.out
                rw [hy, hz]
                clear hy
                have HQ := hid (HQ.out.add (g := fun _ => DjR ux ul t11) (kept_dj _ _ _) (dj_old hold hz))
                clear hz
                have HQ : Hid (FrQ w3 X [(t11, StBox 0 0 0 none 0 0), (t10, RBox none 0 0 0 0 none 0 0), (g4, (.cells (madeCells #[.float .f64 0] n) 28))] [fun _ => DjR ux ul t11, fun _ => DjR ux ul t10, fun W => BlR EE n zs xs R W ux k1 k2 ul k3 k4 A]) := frq_perm HQ.out (by simp) (by have hn := HQ.out.nod; simp only [List.map_cons, List.map_nil, List.nodup_cons, List.mem_cons, List.not_mem_nil, or_false, not_or, not_false_iff, List.nodup_nil, and_true] at hn ⊢; omega) (by simp)
                have hfin := HS3abc.out X ux k1 k2 r1 c1 ul k3 k4 Y A S1 ug k5 k6 EE g4 t10 t11 HQ
                rw [hG.out, hA.out] at hfin
                simp only [Act.put, List.setIfInBounds_toArray, List.set_cons_zero, List.set_cons_succ] at hfin
                exact hfin
              have HS3ac : Hid (∀ (W : World) (ux : Option Addr) (k1 k2 : Nat) (r1 c1 : Int) (ul : Option Addr) (k3 k4 Y A S1 : Nat) (ug : Option Addr) (k5 k6 : Nat) (EE : Int) (g4 t11 : Nat), Hid (FrQ w3 W [(t11, StBox 0 0 0 none 0 0), (g4, (.cells (madeCells #[.float .f64 0] n) 28))] [fun _ => DjR ux ul t11, fun W => BlR EE n zs xs R W ux k1 k2 ul k3 k4 A]) → G 4 #[true, true, true, true, true, true, true, true, true, true, true, true, true, true, false, true, false, false, false] (Act.put (Act.put (Act.put (Act.put (Act.put (Act.put (Act.put (Act.put (Act.put (A0) (some 47) (.float .f64 R)) (some 49) (.float .f64 Z)) (some 50) (.tuple #[.agg #[.slice ux k1 k2, .int .i64 r1, .int .i64 c1, .slice ul k3 k4], .agg #[.float .f64 Y, .float .f64 A, .float .f64 S1, .slice ug k5 k6], .int .i64 EE])) (some 40) (.tuple #[.agg #[.slice ux k1 k2, .int .i64 r1, .int .i64 c1, .slice ul k3 k4], .agg #[.float .f64 Y, .float .f64 A, .float .f64 S1, .slice ug k5 k6], .int .i64 EE])) (some 51) (.agg #[.slice ux k1 k2, .int .i64 r1, .int .i64 c1, .slice ul k3 k4])) (some 52) (.agg #[.float .f64 Y, .float .f64 A, .float .f64 S1, .slice ug k5 k6])) (some 53) (.int .i64 EE)) (some 45) (.slice (some ⟨g4, 0, none⟩) n n)) (some 11) (.pointer (some ⟨t11, 0, none⟩))) W) := fun W ux k1 k2 r1 c1 ul k3 k4 Y A S1 ug k5 k6 EE g4 t11 HQ => by
                rw [hG.out, hA.out]
                simp only [Act.put, List.setIfInBounds_toArray, List.set_cons_zero, List.set_cons_succ]
                refine wpAnyH_ready (rs := [14]) (by kernel_rfl) (by simp) ?_
                refine AllReadyH.cons (o := _) rfl (fun K hK => ?_) AllReadyH.nil
                have hold := BlR.old (HQ.out.get (g := fun W => BlR EE n zs xs R W ux k1 k2 ul k3 k4 A) 1 rfl)
                go_simp
                go_wp2_with fail
                have HQ := hid (HQ.out.alloc (RBox none 0 0 0 0 none 0 0))
                refine hK.out _ _ (HKT.out _ HQ.out.bel) (fun hHeld => ?_)
                clear hK K
                try simp only [List.setIfInBounds_toArray, List.set_cons_zero, List.set_cons_succ]
                obtain ⟨X, hX, HQ⟩ := frq_name HQ.out
                obtain ⟨t10, ht10, HQ⟩ := frq_head HQ.out
                have hy := hX.out
                unfold RBox at hy
                have hz := ht10.out
                rw [hy, hz]
                clear hy
                have HQ := hid (HQ.out.add (g := fun _ => DjR ux ul t10) (kept_dj _ _ _) (dj_old hold hz))
                clear hz
                have HQ : Hid (FrQ w3 X [(t11, StBox 0 0 0 none 0 0), (t10, RBox none 0 0 0 0 none 0 0), (g4, (.cells (madeCells #[.float .f64 0] n) 28))] [fun _ => DjR ux ul t11, fun _ => DjR ux ul t10, fun W => BlR EE n zs xs R W ux k1 k2 ul k3 k4 A]) := frq_perm HQ.out (by simp) (by have hn := HQ.out.nod; simp only [List.map_cons, List.map_nil, List.nodup_cons, List.mem_cons, List.not_mem_nil, or_false, not_or, not_false_iff, List.nodup_nil, and_true] at hn ⊢; omega) (by simp)
                have hfin := HS3abc.out X ux k1 k2 r1 c1 ul k3 k4 Y A S1 ug k5 k6 EE g4 t10 t11 HQ
                rw [hG.out, hA.out] at hfin
                simp only [Act.put, List.setIfInBounds_toArray, List.set_cons_zero, List.set_cons_succ] at hfin
                exact hfin
              have HS2abc : Hid (∀ (W : World)  (g4 t10 t11 : Nat), Hid (FrQ w3 W [(t11, StBox 0 0 0 none 0 0), (t10, RBox none 0 0 0 0 none 0 0), (g4, (.cells (madeCells #[.float .f64 0] n) 28))] []) → G 8 #[true, true, true, true, true, true, true, true, true, false, false, false, false, false, true, true, false, false, false] (Act.put (Act.put (Act.put (Act.put (Act.put (A0) (some 47) (.float .f64 R)) (some 49) (.float .f64 Z)) (some 45) (.slice (some ⟨g4, 0, none⟩) n n)) (some 10) (.pointer (some ⟨t10, 0, none⟩))) (some 11) (.pointer (some ⟨t11, 0, none⟩))) W) := fun W g4 t10 t11 HQ => by
                rw [hG.out, hA.out]
                simp only [Act.put, List.setIfInBounds_toArray, List.set_cons_zero, List.set_cons_succ]
                refine wpAnyH_ready (rs := [9]) (by kernel_rfl) (by simp) ?_
                refine AllReadyH.cons (o := _) rfl (fun K hK => ?_) AllReadyH.nil
                go_simp
                refine (HUPD.out W g4 HQ.out.bel (noughts_fl (HQ.out.at 2 rfl) HN12.out)).mono ?_
                rintro e X ⟨⟨ux, k1, k2, r1, c1, ul, k3, k4, Y, A, S1, ug, k5, k6, EE, rfl, hbl, hnew⟩, hb⟩
                have hdT : DjR ux ul t10 := dj_new hnew (HQ.out.at 1 rfl)
                have hdU : DjR ux ul t11 := dj_new hnew (HQ.out.at 0 rfl)
                have HQ := hid (HQ.out.call hb)
                have HQ := hid (HQ.out.add (g := fun W => BlR EE n zs xs R W ux k1 k2 ul k3 k4 A) (kept_bl _ _ _ _ _ _ _ _ _ _ _ _) hbl)
                have HQ := hid (HQ.out.add (g := fun _ => DjR ux ul t10) (kept_dj _ _ _) hdT)
                have HQ := hid (HQ.out.add (g := fun _ => DjR ux ul t11) (kept_dj _ _ _) hdU)
                clear hb
                go_wp2_with fail
                refine hK.out _ _ (HKT.out _ HQ.out.bel) (fun hHeld => ?_)
                clear hK K
                try simp only [List.setIfInBounds_toArray, List.set_cons_zero, List.set_cons_succ]
                refine take_at 10 40 (.tuple #[.agg #[.slice ux k1 k2, .int .i64 r1, .int .i64 c1, .slice ul k3 k4], .agg #[.float .f64 Y, .float .f64 A, .float .f64 S1, .slice ug k5 k6], .int .i64 EE]) rfl rfl (by kernel_rfl) (by kernel_rfl) (by kernel_rfl) (fun _ _ _ h => h) (Or.inl ⟨by rfl, fun w hSw => by (try dsimp only at hSw); go_simp⟩) (by assumption) ?_
                simp only [Act.put, List.setIfInBounds_toArray, List.set_cons_zero, List.set_cons_succ]
                refine take_at 11 51 (.agg #[.slice ux k1 k2, .int .i64 r1, .int .i64 c1, .slice ul k3 k4]) rfl rfl (by kernel_rfl) (by kernel_rfl) (by kernel_rfl) (fun _ _ _ h => h) (Or.inl ⟨by rfl, fun w hSw => by (try dsimp only at hSw); go_simp⟩) (by assumption) ?_
                simp only [Act.put, List.setIfInBounds_toArray, List.set_cons_zero, List.set_cons_succ]
                refine take_at 12 52 (.agg #[.float .f64 Y, .float .f64 A, .float .f64 S1, .slice ug k5 k6]) rfl rfl (by kernel_rfl) (by kernel_rfl) (by kernel_rfl) (fun _ _ _ h => h) (Or.inl ⟨by rfl, fun w hSw => by (try dsimp only at hSw); go_simp⟩) (by assumption) ?_
                simp only [Act.put, List.setIfInBounds_toArray, List.set_cons_zero, List.set_cons_succ]
                refine take_at 13 53 (.int .i64 EE) rfl rfl (by kernel_rfl) (by kernel_rfl) (by kernel_rfl) (fun _ _ _ h => h) (Or.inl ⟨by rfl, fun w hSw => by (try dsimp only at hSw); go_simp⟩) (by assumption) ?_
                simp only [Act.put, List.setIfInBounds_toArray, List.set_cons_zero, List.set_cons_succ]
                have hfin := HS3abc.out X ux k1 k2 r1 c1 ul k3 k4 Y A S1 ug k5 k6 EE g4 t10 t11 HQ
                rw [hG.out, hA.out] at hfin
                simp only [Act.put, List.setIfInBounds_toArray, List.set_cons_zero, List.set_cons_succ] at hfin
                exact hfin
              clear HS3abc
              have HS3a : Hid (∀ (W : World) (ux : Option Addr) (k1 k2 : Nat) (r1 c1 : Int) (ul : Option Addr) (k3 k4 Y A S1 : Nat) (ug : Option Addr) (k5 k6 : Nat) (EE : Int) (g4 : Nat), Hid (FrQ w3 W [(g4, (.cells (madeCells #[.float .f64 0] n) 28))] [fun W => BlR EE n zs xs R W ux k1 k2 ul k3 k4 A]) → G 5 #[true, true, true, true, true, true, true, true, true, true, true, true, true, true, false, false, false, false, false] (Act.put (Act.put (Act.put (Act.put (Act.put (Act.put (Act.put (Act.put (A0) (some 47) (.float .f64 R)) (some 49) (.float .f64 Z)) (some 50) (.tuple #[.agg #[.slice ux k1 k2, .int .i64 r1, .int .i64 c1, .slice ul k3 k4], .agg #[.float .f64 Y, .float .f64 A, .float .f64 S1, .slice ug k5 k6], .int .i64 EE])) (some 40) (.tuple #[.agg #[.slice ux k1 k2, .int .i64 r1, .int .i64 c1, .slice ul k3 k4], .agg #[.float .f64 Y, .float .f64 A, .float .f64 S1, .slice ug k5 k6], .int .i64 EE])) (some 51) (.agg #[.slice ux k1 k2, .int .i64 r1, .int .i64 c1, .slice ul k3 k4])) (some 52) (.agg #[.float .f64 Y, .float .f64 A, .float .f64 S1, .slice ug k5 k6])) (some 53) (.int .i64 EE)) (some 45) (.slice (some ⟨g4, 0, none⟩) n n)) W) := fun W ux k1 k2 r1 c1 ul k3 k4 Y A S1 ug k5 k6 EE g4 HQ => by
                rw [hG.out, hA.out]
                simp only [Act.put, List.setIfInBounds_toArray, List.set_cons_zero, List.set_cons_succ]
                refine wpAnyH_ready (rs := [14, 15]) (by kernel_rfl) (by simp) ?_
                refine AllReadyH.cons (o := _) rfl (fun K hK => ?_) (AllReadyH.cons (o := _) rfl (fun K hK => ?_) AllReadyH.nil)
                · have hold := BlR.old (HQ.out.get (g := fun W => BlR EE n zs xs R W ux k1 k2 ul k3 k4 A) 0 rfl)
                  go_simp
                  go_wp2_with fail
                  have HQ := hid (HQ.out.alloc (RBox none 0 0 0 0 none 0 0))
                  refine hK.out _ _ (HKT.out _ HQ.out.bel) (fun hHeld => ?_)
                  clear hK K
                  try simp only [List.setIfInBounds_toArray, List.set_cons_zero, List.set_cons_succ]
                  obtain ⟨X, hX, HQ⟩ := frq_name HQ.out
                  obtain ⟨t10, ht10, HQ⟩ := frq_head HQ.out
                  have hy := hX.out
                  unfold RBox at hy
                  have hz := ht10.out
                  rw [hy, hz]
                  clear hy
                  have HQ := hid (HQ.out.add (g := fun _ => DjR ux ul t10) (kept_dj _ _ _) (dj_old hold hz))
                  clear hz
                  have HQ : Hid (FrQ w3 X [(t10, RBox none 0 0 0 0 none 0 0), (g4, (.cells (madeCells #[.float .f64 0] n) 28))] [fun _ => DjR ux ul t10, fun W => BlR EE n zs xs R W ux k1 k2 ul k3 k4 A]) := frq_perm HQ.out (by simp) (by have hn := HQ.out.nod; simp only [List.map_cons, List.map_nil, List.nodup_cons, List.mem_cons, List.not_mem_nil, or_false, not_false_iff, List.nodup_nil, and_true] at hn ⊢; omega) (by simp)
                  have hfin := HS3ab.out X ux k1 k2 r1 c1 ul k3 k4 Y A S1 ug k5 k6 EE g4 t10 HQ
                  rw [hG.out, hA.out] at hfin
                  simp only [Act.put, List.setIfInBounds_toArray, List.set_cons_zero, List.set_cons_succ] at hfin
                  exact hfin
                · have hold := BlR.old (HQ.out.get (g := fun W => BlR EE n zs xs R W ux k1 k2 ul k3 k4 A) 0 rfl)
                  go_simp
                  go_wp2_with fail
                  have HQ := hid (HQ.out.alloc (StBox 0 0 0 none 0 0))
                  refine hK.out _ _ (HKT.out _ HQ.out.bel) (fun hHeld => ?_)
                  clear hK K
                  try simp only [List.setIfInBounds_toArray, List.set_cons_zero, List.set_cons_succ]
                  obtain ⟨X, hX, HQ⟩ := frq_name HQ.out
                  obtain ⟨t11, ht11, HQ⟩ := frq_head HQ.out
                  have hy := hX.out
                  unfold StBox at hy
                  have hz := ht11.out
                  rw [hy, hz]
                  clear hy
                  have HQ := hid (HQ.out.add (g := fun _ => DjR ux ul t11) (kept_dj _ _ _) (dj_old hold hz))
                  clear hz
                  have HQ : Hid (FrQ w3 X [(t11, StBox 0 0 0 none 0 0), (g4, (.cells (madeCells #[.float .f64 0] n) 28))] [fun _ => DjR ux ul t11, fun W => BlR EE n zs xs R W ux k1 k2 ul k3 k4 A]) := frq_perm HQ.out (by simp) (by have hn := HQ.out.nod; simp only [List.map_cons, List.map_nil, List.nodup_cons, List.mem_cons, List.not_mem_nil, or_false, not_false_iff, List.nodup_nil, and_true] at hn ⊢; omega) (by simp)
                  have hfin := HS3ac.out X ux k1 k2 r1 c1 ul k3 k4 Y A S1 ug k5 k6 EE g4 t11 HQ
                  rw [hG.out, hA.out] at hfin
                  simp only [Act.put, List.setIfInBounds_toArray, List.set_cons_zero, List.set_cons_succ] at hfin
                  exact hfin
              have HS2ab : Hid (∀ (W : World)  (g4 t10 : Nat), Hid (FrQ w3 W [(t10, RBox none 0 0 0 0 none 0 0), (g4, (.cells (madeCells #[.float .f64 0] n) 28))] []) → G 9 #[true, true, true, true, true, true, true, true, true, false, false, false, false, false, true, false, false, false, false] (Act.put (Act.put (Act.put (Act.put (A0) (some 47) (.float .f64 R)) (some 49) (.float .f64 Z)) (some 45) (.slice (some ⟨g4, 0, none⟩) n n)) (some 10) (.pointer (some ⟨t10, 0, none⟩))) W) := fun W g4 t10 HQ => by
                rw [hG.out, hA.out]
                simp only [Act.put, List.setIfInBounds_toArray, List.set_cons_zero, List.set_cons_succ]
                refine wpAnyH_ready (rs := [9, 15]) (by kernel_rfl) (by simp) ?_
                refine AllReadyH.cons (o := _) rfl (fun K hK => ?_) (AllReadyH.cons (o := _) rfl (fun K hK => ?_) AllReadyH.nil)
                · go_simp
                  refine (HUPD.out W g4 HQ.out.bel (noughts_fl (HQ.out.at 1 rfl) HN12.out)).mono ?_
                  rintro e X ⟨⟨ux, k1, k2, r1, c1, ul, k3, k4, Y, A, S1, ug, k5, k6, EE, rfl, hbl, hnew⟩, hb⟩
                  have hdT : DjR ux ul t10 := dj_new hnew (HQ.out.at 0 rfl)
                  have HQ := hid (HQ.out.call hb)
                  have HQ := hid (HQ.out.add (g := fun W => BlR EE n zs xs R W ux k1 k2 ul k3 k4 A) (kept_bl _ _ _ _ _ _ _ _ _ _ _ _) hbl)
                  have HQ := hid (HQ.out.add (g := fun _ => DjR ux ul t10) (kept_dj _ _ _) hdT)
                  clear hb
                  go_wp2_with fail
                  refine hK.out _ _ (HKT.out _ HQ.out.bel) (fun hHeld => ?_)
                  clear hK K
                  try simp only [List.setIfInBounds_toArray, List.set_cons_zero, List.set_cons_succ]
                  refine take_at 10 40 (.tuple #[.agg #[.slice ux k1 k2, .int .i64 r1, .int .i64 c1, .slice ul k3 k4], .agg #[.float .f64 Y, .float .f64 A, .float .f64 S1, .slice ug k5 k6], .int .i64 EE]) rfl rfl (by kernel_rfl) (by kernel_rfl) (by kernel_rfl) (fun _ _ _ h => h) (Or.inl ⟨by rfl, fun w hSw => by (try dsimp only at hSw); go_simp⟩) (by assumption) ?_
                  simp only [Act.put, List.setIfInBounds_toArray, List.set_cons_zero, List.set_cons_succ]
                  refine take_at 11 51 (.agg #[.slice ux k1 k2, .int .i64 r1, .int .i64 c1, .slice ul k3 k4]) rfl rfl (by kernel_rfl) (by kernel_rfl) (by kernel_rfl) (fun _ _ _ h => h) (Or.inl ⟨by rfl, fun w hSw => by (try dsimp only at hSw); go_simp⟩) (by assumption) ?_
                  simp only [Act.put, List.setIfInBounds_toArray, List.set_cons_zero, List.set_cons_succ]
                  refine take_at 12 52 (.agg #[.float .f64 Y, .float .f64 A, .float .f64 S1, .slice ug k5 k6]) rfl rfl (by kernel_rfl) (by kernel_rfl) (by kernel_rfl) (fun _ _ _ h => h) (Or.inl ⟨by rfl, fun w hSw => by (try dsimp only at hSw); go_simp⟩) (by assumption) ?_
                  simp only [Act.put, List.setIfInBounds_toArray, List.set_cons_zero, List.set_cons_succ]
                  refine take_at 13 53 (.int .i64 EE) rfl rfl (by kernel_rfl) (by kernel_rfl) (by kernel_rfl) (fun _ _ _ h => h) (Or.inl ⟨by rfl, fun w hSw => by (try dsimp only at hSw); go_simp⟩) (by assumption) ?_
                  simp only [Act.put, List.setIfInBounds_toArray, List.set_cons_zero, List.set_cons_succ]
                  have hfin := HS3ab.out X ux k1 k2 r1 c1 ul k3 k4 Y A S1 ug k5 k6 EE g4 t10 HQ
                  rw [hG.out, hA.out] at hfin
                  simp only [Act.put, List.setIfInBounds_toArray, List.set_cons_zero, List.set_cons_succ] at hfin
                  exact hfin
                · go_simp
                  go_wp2_with fail
                  have HQ := hid (HQ.out.alloc (StBox 0 0 0 none 0 0))
                  refine hK.out _ _ (HKT.out _ HQ.out.bel) (fun hHeld => ?_)
                  clear hK K
                  try simp only [List.setIfInBounds_toArray, List.set_cons_zero, List.set_cons_succ]
                  obtain ⟨X, hX, HQ⟩ := frq_name HQ.out
                  obtain ⟨t11, ht11, HQ⟩ := frq_head HQ.out
                  have hy := hX.out
                  unfold StBox at hy
                  have hz := ht11.out
                  rw [hy, hz]
                  clear hy
                  clear hz
                  have HQ : Hid (FrQ w3 X [(t11, StBox 0 0 0 none 0 0), (t10, RBox none 0 0 0 0 none 0 0), (g4, (.cells (madeCells #[.float .f64 0] n) 28))] []) := frq_perm HQ.out (by simp) (by have hn := HQ.out.nod; simp only [List.map_cons, List.map_nil, List.nodup_cons, List.mem_cons, List.not_mem_nil, or_false, not_or, not_false_iff, List.nodup_nil, and_true] at hn ⊢; omega) (by simp)
                  have hfin := HS2abc.out X g4 t10 t11 HQ
                  rw [hG.out, hA.out] at hfin
                  simp only [Act.put, List.setIfInBounds_toArray, List.set_cons_zero, List.set_cons_succ] at hfin
                  exact hfin
              have HS2ac : Hid (∀ (W : World)  (g4 t11 : Nat), Hid (FrQ w3 W [(t11, StBox 0 0 0 none 0 0), (g4, (.cells (madeCells #[.float .f64 0] n) 28))] []) → G 9 #[true, true, true, true, true, true, true, true, true, false, false, false, false, false, false, true, false, false, false] (Act.put (Act.put (Act.put (Act.put (A0) (some 47) (.float .f64 R)) (some 49) (.float .f64 Z)) (some 45) (.slice (some ⟨g4, 0, none⟩) n n)) (some 11) (.pointer (some ⟨t11, 0, none⟩))) W) := fun W g4 t11 HQ => by
                rw [hG.out, hA.out]
                simp only [Act.put, List.setIfInBounds_toArray, List.set_cons_zero, List.set_cons_succ]
                refine wpAnyH_ready (rs := [9, 14]) (by kernel_rfl) (by simp) ?_
                refine AllReadyH.cons (o := _) rfl (fun K hK => ?_) (AllReadyH.cons (o := _) rfl (fun K hK => ?_) AllReadyH.nil)
                · go_simp
                  refine (HUPD.out W g4 HQ.out.bel (noughts_fl (HQ.out.at 1 rfl) HN12.out)).mono ?_
                  rintro e X ⟨⟨ux, k1, k2, r1, c1, ul, k3, k4, Y, A, S1, ug, k5, k6, EE, rfl, hbl, hnew⟩, hb⟩
                  have hdU : DjR ux ul t11 := dj_new hnew (HQ.out.at 0 rfl)
                  have HQ := hid (HQ.out.call hb)
                  have HQ := hid (HQ.out.add (g := fun W => BlR EE n zs xs R W ux k1 k2 ul k3 k4 A) (kept_bl _ _ _ _ _ _ _ _ _ _ _ _) hbl)
                  have HQ := hid (HQ.out.add (g := fun _ => DjR ux ul t11) (kept_dj _ _ _) hdU)
                  clear hb
                  go_wp2_with fail
                  refine hK.out _ _ (HKT.out _ HQ.out.bel) (fun hHeld => ?_)
                  clear hK K
                  try simp only [List.setIfInBounds_toArray, List.set_cons_zero, List.set_cons_succ]
                  refine take_at 10 40 (.tuple #[.agg #[.slice ux k1 k2, .int .i64 r1, .int .i64 c1, .slice ul k3 k4], .agg #[.float .f64 Y, .float .f64 A, .float .f64 S1, .slice ug k5 k6], .int .i64 EE]) rfl rfl (by kernel_rfl) (by kernel_rfl) (by kernel_rfl) (fun _ _ _ h => h) (Or.inl ⟨by rfl, fun w hSw => by (try dsimp only at hSw); go_simp⟩) (by assumption) ?_
                  simp only [Act.put, List.setIfInBounds_toArray, List.set_cons_zero, List.set_cons_succ]
                  refine take_at 11 51 (.agg #[.slice ux k1 k2, .int .i64 r1, .int .i64 c1, .slice ul k3 k4]) rfl rfl (by kernel_rfl) (by kernel_rfl) (by kernel_rfl) (fun _ _ _ h => h) (Or.inl ⟨by rfl, fun w hSw => by (try dsimp only at hSw); go_simp⟩) (by assumption) ?_
                  simp only [Act.put, List.setIfInBounds_toArray, List.set_cons_zero, List.set_cons_succ]
                  refine take_at 12 52 (.agg #[.float .f64 Y, .float .f64 A, .float .f64 S1, .slice ug k5 k6]) rfl rfl (by kernel_rfl) (by kernel_rfl) (by kernel_rfl) (fun _ _ _ h => h) (Or.inl ⟨by rfl, fun w hSw => by (try dsimp only at hSw); go_simp⟩) (by assumption) ?_
                  simp only [Act.put, List.setIfInBounds_toArray, List.set_cons_zero, List.set_cons_succ]
                  refine take_at 13 53 (.int .i64 EE) rfl rfl (by kernel_rfl) (by kernel_rfl) (by kernel_rfl) (fun _ _ _ h => h) (Or.inl ⟨by rfl, fun w hSw => by (try dsimp only at hSw); go_simp⟩) (by assumption) ?_
                  simp only [Act.put, List.setIfInBounds_toArray, List.set_cons_zero, List.set_cons_succ]
                  have hfin := HS3ac.out X ux k1 k2 r1 c1 ul k3 k4 Y A S1 ug k5 k6 EE g4 t11 HQ
                  rw [hG.out, hA.out] at hfin
                  simp only [Act.put, List.setIfInBounds_toArray, List.set_cons_zero, List.set_cons_succ] at hfin
                  exact hfin
                · go_simp
                  go_wp2_with fail
                  have HQ := hid (HQ.out.alloc (RBox none 0 0 0 0 none 0 0))
                  refine hK.out _ _ (HKT.out _ HQ.out.bel) (fun hHeld => ?_)
                  clear hK K
                  try simp only [List.setIfInBounds_toArray, List.set_cons_zero, List.set_cons_succ]
                  obtain ⟨X, hX, HQ⟩ := frq_name HQ.out
                  obtain ⟨t10, ht10, HQ⟩ := frq_head HQ.out
                  have hy := hX.out
                  unfold RBox at hy
                  have hz := ht10.out
                  rw [hy, hz]
                  clear hy
                  clear hz
                  have HQ : Hid (FrQ w3 X [(t11, StBox 0 0 0 none 0 0), (t10, RBox none 0 0 0 0 none 0 0), (g4, (.cells (madeCells #[.float .f64 0] n) 28))] []) := frq_perm HQ.out (by simp) (by have hn := HQ.out.nod; simp only [List.map_cons, List.map_nil, List.nodup_cons, List.mem_cons, List.not_mem_nil, or_false, not_or, not_false_iff, List.nodup_nil, and_true] at hn ⊢; omega) (by simp)
                  have hfin := HS2abc.out X g4 t10 t11 HQ
                  rw [hG.out, hA.out] at hfin
                  simp only [Act.put, List.setIfInBounds_toArray, List.set_cons_zero, List.set_cons_succ] at hfin
                  exact hfin
              have HS2bc : Hid (∀ (W : World)  (t10 t11 : Nat), Hid (FrQ w3 W [(t11, StBox 0 0 0 none 0 0), (t10, RBox none 0 0 0 0 none 0 0)] []) → G 9 #[true, true, true, true, false, true, true, true, true, false, false, false, false, false, true, true, false, false, false] (Act.put (Act.put (Act.put (Act.put (A0) (some 47) (.float .f64 R)) (some 49) (.float .f64 Z)) (some 10) (.pointer (some ⟨t10, 0, none⟩))) (some 11) (.pointer (some ⟨t11, 0, none⟩))) W) := fun W t10 t11 HQ => by
                rw [hG.out, hA.out]
                simp only [Act.put, List.setIfInBounds_toArray, List.set_cons_zero, List.set_cons_succ]
                refine wpAnyH_ready (rs := [4]) (by kernel_rfl) (by simp) ?_
                refine AllReadyH.cons (o := _) rfl (fun K hK => ?_) AllReadyH.nil
                go_simp
                go_wp2_with fail
                have HQ := hid (HQ.out.alloc ((.cells (madeCells #[.float .f64 0] n) 28)))
                refine hK.out _ _ (HKT.out _ HQ.out.bel) (fun hHeld => ?_)
                clear hK K
                try simp only [List.setIfInBounds_toArray, List.set_cons_zero, List.set_cons_succ]
                obtain ⟨X, hX, HQ⟩ := frq_name HQ.out
                obtain ⟨g4, hg4, HQ⟩ := frq_head HQ.out
                have hy := hX.out
                have hz := hg4.out
                rw [hy, hz]
                clear hy
                clear hz
                have HQ : Hid (FrQ w3 X [(t11, StBox 0 0 0 none 0 0), (t10, RBox none 0 0 0 0 none 0 0), (g4, (.cells (madeCells #[.float .f64 0] n) 28))] []) := frq_perm HQ.out (by simp) (by have hn := HQ.out.nod; simp only [List.map_cons, List.map_nil, List.nodup_cons, List.mem_cons, List.not_mem_nil, or_false, not_or, not_false_iff, List.nodup_nil, and_true] at hn ⊢; omega) (by simp)
                have hfin := HS2abc.out X g4 t10 t11 HQ
                rw [hG.out, hA.out] at hfin
                simp only [Act.put, List.setIfInBounds_toArray, List.set_cons_zero, List.set_cons_succ] at hfin
                exact hfin
              have HS1abc : Hid (∀ (W : World)  (g4 t10 t11 : Nat), Hid (FrQ w3 W [(t11, StBox 0 0 0 none 0 0), (t10, RBox none 0 0 0 0 none 0 0), (g4, (.cells (madeCells #[.float .f64 0] n) 28))] []) → G 9 #[true, true, true, true, true, true, true, true, false, false, false, false, false, false, true, true, false, false, false] (Act.put (Act.put (Act.put (Act.put (A0) (some 47) (.float .f64 R)) (some 45) (.slice (some ⟨g4, 0, none⟩) n n)) (some 10) (.pointer (some ⟨t10, 0, none⟩))) (some 11) (.pointer (some ⟨t11, 0, none⟩))) W) := fun W g4 t10 t11 HQ => by
                rw [hG.out, hA.out]
                simp only [Act.put, List.setIfInBounds_toArray, List.set_cons_zero, List.set_cons_succ]
                refine wpAnyH_ready (rs := [8]) (by kernel_rfl) (by simp) ?_
                refine AllReadyH.cons (o := _) rfl (fun K hK => ?_) AllReadyH.nil
                go_simp
                refine (HFZ2.out W).mono ?_
                rintro e X ⟨rfl, hb⟩
                have HQ := hid (HQ.out.call hb)
                clear hb
                go_wp2_with fail
                refine hK.out _ _ (HKT.out _ HQ.out.bel) (fun hHeld => ?_)
                clear hK K
                try simp only [List.setIfInBounds_toArray, List.set_cons_zero, List.set_cons_succ]
                have hfin := HS2abc.out X g4 t10 t11 HQ
                rw [hG.out, hA.out] at hfin
                simp only [Act.put, List.setIfInBounds_toArray, List.set_cons_zero, List.set_cons_succ] at hfin
                exact hfin
              clear HS3ab HS3ac HS2abc
              have HS2a : Hid (∀ (W : World)  (g4 : Nat), Hid (FrQ w3 W [(g4, (.cells (madeCells #[.float .f64 0] n) 28))] []) → G 10 #[true, true, true, true, true, true, true, true, true, false, false, false, false, false, false, false, false, false, false] (Act.put (Act.put (Act.put (A0) (some 47) (.float .f64 R)) (some 49) (.float .f64 Z)) (some 45) (.slice (some ⟨g4, 0, none⟩) n n)) W) := fun W g4 HQ => by
                rw [hG.out, hA.out]
                simp only [Act.put, List.setIfInBounds_toArray, List.set_cons_zero, List.set_cons_succ]
                refine wpAnyH_ready (rs := [9, 14, 15]) (by kernel_rfl) (by simp) ?_
                refine AllReadyH.cons (o := _) rfl (fun K hK => ?_) (AllReadyH.cons (o := _) rfl (fun K hK => ?_) (AllReadyH.cons (o := _) rfl (fun K hK => ?_) AllReadyH.nil))
                · go_simp
                  refine (HUPD.out W g4 HQ.out.bel (noughts_fl (HQ.out.at 0 rfl) HN12.out)).mono ?_
                  rintro e X ⟨⟨ux, k1, k2, r1, c1, ul, k3, k4, Y, A, S1, ug, k5, k6, EE, rfl, hbl, hnew⟩, hb⟩
                  have HQ := hid (HQ.out.call hb)
                  have HQ := hid (HQ.out.add (g := fun W => BlR EE n zs xs R W ux k1 k2 ul k3 k4 A) (kept_bl _ _ _ _ _ _ _ _ _ _ _ _) hbl)
                  clear hb
                  go_wp2_with fail
                  refine hK.out _ _ (HKT.out _ HQ.out.bel) (fun hHeld => ?_)
                  clear hK K
                  try simp only [List.setIfInBounds_toArray, List.set_cons_zero, List.set_cons_succ]
                  refine take_at 10 40 (.tuple #[.agg #[.slice ux k1 k2, .int .i64 r1, .int .i64 c1, .slice ul k3 k4], .agg #[.float .f64 Y, .float .f64 A, .float .f64 S1, .slice ug k5 k6], .int .i64 EE]) rfl rfl (by kernel_rfl) (by kernel_rfl) (by kernel_rfl) (fun _ _ _ h => h) (Or.inl ⟨by rfl, fun w hSw => by (try dsimp only at hSw); go_simp⟩) (by assumption) ?_
                  simp only [Act.put, List.setIfInBounds_toArray, List.set_cons_zero, List.set_cons_succ]
                  refine take_at 11 51 (.agg #[.slice ux k1 k2, .int .i64 r1, .int .i64 c1, .slice ul k3 k4]) rfl rfl (by kernel_rfl) (by kernel_rfl) (by kernel_rfl) (fun _ _ _ h => h) (Or.inl ⟨by rfl, fun w hSw => by (try dsimp only at hSw); go_simp⟩) (by assumption) ?_
                  simp only [Act.put, List.setIfInBounds_toArray, List.set_cons_zero, List.set_cons_succ]
                  refine take_at 12 52 (.agg #[.float .f64 Y, .float .f64 A, .float .f64 S1, .slice ug k5 k6]) rfl rfl (by kernel_rfl) (by kernel_rfl) (by kernel_rfl) (fun _ _ _ h => h) (Or.inl ⟨by rfl, fun w hSw => by (try dsimp only at hSw); go_simp⟩) (by assumption) ?_
                  simp only [Act.put, List.setIfInBounds_toArray, List.set_cons_zero, List.set_cons_succ]
                  refine take_at 13 53 (.int .i64 EE) rfl rfl (by kernel_rfl) (by kernel_rfl) (by kernel_rfl) (fun _ _ _ h => h) (Or.inl ⟨by rfl, fun w hSw => by (try dsimp only at hSw); go_simp⟩) (by assumption) ?_
                  simp only [Act.put, List.setIfInBounds_toArray, List.set_cons_zero, List.set_cons_succ]
                  have hfin := HS3a.out X ux k1 k2 r1 c1 ul k3 k4 Y A S1 ug k5 k6 EE g4 HQ
                  rw [hG.out, hA.out] at hfin
                  simp only [Act.put, List.setIfInBounds_toArray, List.set_cons_zero, List.set_cons_succ] at hfin
                  exact hfin
                · go_simp
                  go_wp2_with fail
                  have HQ := hid (HQ.out.alloc (RBox none 0 0 0 0 none 0 0))
                  refine hK.out _ _ (HKT.out _ HQ.out.bel) (fun hHeld => ?_)
                  clear hK K
                  try simp only [List.setIfInBounds_toArray, List.set_cons_zero, List.set_cons_succ]
                  obtain ⟨X, hX, HQ⟩ := frq_name HQ.out
                  obtain ⟨t10, ht10, HQ⟩ := frq_head HQ.out
                  have hy := hX.out
                  unfold RBox at hy
                  have hz := ht10.out
                  rw [hy, hz]
                  clear hy
                  clear hz
                  have HQ : Hid (FrQ w3 X [(t10, RBox none 0 0 0 0 none 0 0), (g4, (.cells (madeCells #[.float .f64 0] n) 28))] []) := frq_perm HQ.out (by simp) (by have hn := HQ.out.nod; simp only [List.map_cons, List.map_nil, List.nodup_cons, List.mem_cons, List.not_mem_nil, or_false, not_false_iff, List.nodup_nil, and_true] at hn ⊢; omega) (by simp)
                  have hfin := HS2ab.out X g4 t10 HQ
                  rw [hG.out, hA.out] at hfin
                  simp only [Act.put, List.setIfInBounds_toArray, List.set_cons_zero, List.set_cons_succ] at hfin
                  exact hfin
                · go_simp
                  go_wp2_with fail
                  have HQ := hid (HQ.out.alloc (StBox 0 0 0 none 0 0))
                  refine hK.out _ _ (HKT.out _ HQ.out.bel) (fun hHeld => ?_)
                  clear hK K
                  try simp only [List.setIfInBounds_toArray, List.set_cons_zero, List.set_cons_succ]
                  obtain ⟨X, hX, HQ⟩ := frq_name HQ.out
                  obtain ⟨t11, ht11, HQ⟩ := frq_head HQ.out
                  have hy := hX.out
                  unfold StBox at hy
                  have hz := ht11.out
                  rw [hy, hz]
                  clear hy
                  clear hz
                  have HQ : Hid (FrQ w3 X [(t11, StBox 0 0 0 none 0 0), (g4, (.cells (madeCells #[.float .f64 0] n) 28))] []) := frq_perm HQ.out (by simp) (by have hn := HQ.out.nod; simp only [List.map_cons, List.map_nil, List.nodup_cons, List.mem_cons, List.not_mem_nil, or_false, not_false_iff, List.nodup_nil, and_true] at hn ⊢; omega) (by simp)
                  have hfin := HS2ac.out X g4 t11 HQ
                  rw [hG.out, hA.out] at hfin
                  simp only [Act.put, List.setIfInBounds_toArray, List.set_cons_zero, List.set_cons_succ] at hfin
                  exact hfin
              have HS2b : Hid (∀ (W : World)  (t10 : Nat), Hid (FrQ w3 W [(t10, RBox none 0 0 0 0 none 0 0)] []) → G 10 #[true, true, true, true, false, true, true, true, true, false, false, false, false, false, true, false, false, false, false] (Act.put (Act.put (Act.put (A0) (some 47) (.float .f64 R)) (some 49) (.float .f64 Z)) (some 10) (.pointer (some ⟨t10, 0, none⟩))) W) := fun W t10 HQ => by
                rw [hG.out, hA.out]
                simp only [Act.put, List.setIfInBounds_toArray, List.set_cons_zero, List.set_cons_succ]
                refine wpAnyH_ready (rs := [4, 15]) (by kernel_rfl) (by simp) ?_
                refine AllReadyH.cons (o := _) rfl (fun K hK => ?_) (AllReadyH.cons (o := _) rfl (fun K hK => ?_) AllReadyH.nil)
                · go_simp
                  go_wp2_with fail
                  have HQ := hid (HQ.out.alloc ((.cells (madeCells #[.float .f64 0] n) 28)))
                  refine hK.out _ _ (HKT.out _ HQ.out.bel) (fun hHeld => ?_)
                  clear hK K
                  try simp only [List.setIfInBounds_toArray, List.set_cons_zero, List.set_cons_succ]
                  obtain ⟨X, hX, HQ⟩ := frq_name HQ.out
                  obtain ⟨g4, hg4, HQ⟩ := frq_head HQ.out
                  have hy := hX.out
                  have hz := hg4.out
                  rw [hy, hz]
                  clear hy
                  clear hz
                  have HQ : Hid (FrQ w3 X [(t10, RBox none 0 0 0 0 none 0 0), (g4, (.cells (madeCells #[.float .f64 0] n) 28))] []) := frq_perm HQ.out (by simp) (by have hn := HQ.out.nod; simp only [List.map_cons, List.map_nil, List.nodup_cons, List.mem_cons, List.not_mem_nil, or_false, not_false_iff, List.nodup_nil, and_true] at hn ⊢; omega) (by simp)
                  have hfin := HS2ab.out X g4 t10 HQ
                  rw [hG.out, hA.out] at hfin
                  simp only [Act.put, List.setIfInBounds_toArray, List.set_cons_zero, List.set_cons_succ] at hfin
                  exact hfin
                · go_simp
                  go_wp2_with fail
                  have HQ := hid (HQ.out.alloc (StBox 0 0 0 none 0 0))
                  refine hK.out _ _ (HKT.out _ HQ.out.bel) (fun hHeld => ?_)
                  clear hK K
                  try simp only [List.setIfInBounds_toArray, List.set_cons_zero, List.set_cons_succ]
                  obtain ⟨X, hX, HQ⟩ := frq_name HQ.out
                  obtain ⟨t11, ht11, HQ⟩ := frq_head HQ.out
                  have hy := hX.out
                  unfold StBox at hy
                  have hz := ht11.out
                  rw [hy, hz]
                  clear hy
                  clear hz
                  have HQ : Hid (FrQ w3 X [(t11, StBox 0 0 0 none 0 0), (t10, RBox none 0 0 0 0 none 0 0)] []) := frq_perm HQ.out (by simp) (by have hn := HQ.out.nod; simp only [List.map_cons, List.map_nil, List.nodup_cons, List.mem_cons, List.not_mem_nil, or_false, not_false_iff, List.nodup_nil, and_true] at hn ⊢; omega) (by simp)
                  have hfin := HS2bc.out X t10 t11 HQ
                  rw [hG.out, hA.out] at hfin
                  simp only [Act.put, List.setIfInBounds_toArray, List.set_cons_zero, List.set_cons_succ] at hfin
                  exact hfin
              have HS2c : Hid (∀ (W : World)  (t11 : Nat), Hid (FrQ w3 W [(t11, StBox 0 0 0 none 0 0)] []) → G 10 #[true, true, true, true, false, true, true, true, true, false, false, false, false, false, false, true, false, false, false] (Act.put (Act.put (Act.put (A0) (some 47) (.float .f64 R)) (some 49) (.float .f64 Z)) (some 11) (.pointer (some ⟨t11, 0, none⟩))) W) := fun W t11 HQ => by
                rw [hG.out, hA.out]
                simp only [Act.put, List.setIfInBounds_toArray, List.set_cons_zero, List.set_cons_succ]
                refine wpAnyH_ready (rs := [4, 14]) (by kernel_rfl) (by simp) ?_
                refine AllReadyH.cons (o := _) rfl (fun K hK => ?_) (AllReadyH.cons (o := _) rfl (fun K hK => ?_) AllReadyH.nil)
                · go_simp
                  go_wp2_with fail
                  have HQ := hid (HQ.out.alloc ((.cells (madeCells #[.float .f64 0] n) 28)))
                  refine hK.out _ _ (HKT.out _ HQ.out.bel) (fun hHeld => ?_)
                  clear hK K
                  try simp only [List.setIfInBounds_toArray, List.set_cons_zero, List.set_cons_succ]
                  obtain ⟨X, hX, HQ⟩ := frq_name HQ.out
                  obtain ⟨g4, hg4, HQ⟩ := frq_head HQ.out
                  have hy := hX.out
                  have hz := hg4.out
                  rw [hy, hz]
                  clear hy
                  clear hz
                  have HQ : Hid (FrQ w3 X [(t11, StBox 0 0 0 none 0 0), (g4, (.cells (madeCells #[.float .f64 0] n) 28))] []) := frq_perm HQ.out (by simp) (by have hn := HQ.out.nod; simp only [List.map_cons, List.map_nil, List.nodup_cons, List.mem_cons, List.not_mem_nil, or_false, not_false_iff, List.nodup_nil, and_true] at hn ⊢; omega) (by simp)
                  have hfin := HS2ac.out X g4 t11 HQ
                  rw [hG.out, hA.out] at hfin
                  simp only [Act.put, List.setIfInBounds_toArray, List.set_cons_zero, List.set_cons_succ] at hfin
                  exact hfin
                · go_simp
                  go_wp2_with fail
                  have HQ := hid (HQ.out.alloc (RBox none 0 0 0 0 none 0 0))
                  refine hK.out _ _ (HKT.out _ HQ.out.bel) (fun hHeld => ?_)
                  clear hK K
                  try simp only [List.setIfInBounds_toArray, List.set_cons_zero, List.set_cons_succ]
                  obtain ⟨X, hX, HQ⟩ := frq_name HQ.out
                  obtain ⟨t10, ht10, HQ⟩ := frq_head HQ.out
                  have hy := hX.out
                  unfold RBox at hy
                  have hz := ht10.out
                  rw [hy, hz]
                  clear hy
                  clear hz
                  have HQ : Hid (FrQ w3 X [(t11, StBox 0 0 0 none 0 0), (t10, RBox none 0 0 0 0 none 0 0)] []) := frq_perm HQ.out (by simp) (by have hn := HQ.out.nod; simp only [List.map_cons, List.map_nil, List.nodup_cons, List.mem_cons, List.not_mem_nil, or_false, not_false_iff, List.nodup_nil, and_true] at hn ⊢; omega) (by simp)
                  have hfin := HS2bc.out X t10 t11 HQ
                  rw [hG.out, hA.out] at hfin
                  simp only [Act.put, List.setIfInBounds_toArray, List.set_cons_zero, List.set_cons_succ] at hfin
                  exact hfin
              have HS1ab : Hid (∀ (W : World)  (g4 t10 : Nat), Hid (FrQ w3 W [(t10, RBox none 0 0 0 0 none 0 0), (g4, (.cells (madeCells #[.float .f64 0] n) 28))] []) → G 10 #[true, true, true, true, true, true, true, true, false, false, false, false, false, false, true, false, false, false, false] (Act.put (Act.put (Act.put (A0) (some 47) (.float .f64 R)) (some 45) (.slice (some ⟨g4, 0, none⟩) n n)) (some 10) (.pointer (some ⟨t10, 0, none⟩))) W) := fun W g4 t10 HQ => by
                rw [hG.out, hA.out]
                simp only [Act.put, List.setIfInBounds_toArray, List.set_cons_zero, List.set_cons_succ]
                refine wpAnyH_ready (rs := [8, 15]) (by kernel_rfl) (by simp) ?_
                refine AllReadyH.cons (o := _) rfl (fun K hK => ?_) (AllReadyH.cons (o := _) rfl (fun K hK => ?_) AllReadyH.nil)
                · go_simp
                  refine (HFZ2.out W).mono ?_
                  rintro e X ⟨rfl, hb⟩
                  have HQ := hid (HQ.out.call hb)
                  clear hb
                  go_wp2_with fail
                  refine hK.out _ _ (HKT.out _ HQ.out.bel) (fun hHeld => ?_)
                  clear hK K
                  try simp only [List.setIfInBounds_toArray, List.set_cons_zero, List.set_cons_succ]
                  have hfin := HS2ab.out X g4 t10 HQ
                  rw [hG.out, hA.out] at hfin
                  simp only [Act.put, List.setIfInBounds_toArray, List.set_cons_zero, List.set_cons_succ] at hfin
                  exact hfin
                · go_simp
                  go_wp2_with fail
                  have HQ := hid (HQ.out.alloc (StBox 0 0 0 none 0 0))
                  refine hK.out _ _ (HKT.out _ HQ.out.bel) (fun hHeld => ?_)
                  clear hK K
                  try simp only [List.setIfInBounds_toArray, List.set_cons_zero, List.set_cons_succ]
                  obtain ⟨X, hX, HQ⟩ := frq_name HQ.out
                  obtain ⟨t11, ht11, HQ⟩ := frq_head HQ.out
                  have hy := hX.out
                  unfold StBox at hy
                  have hz := ht11.out
                  rw [hy, hz]
                  clear hy
                  clear hz
                  have HQ : Hid (FrQ w3 X [(t11, StBox 0 0 0 none 0 0), (t10, RBox none 0 0 0 0 none 0 0), (g4, (.cells (madeCells #[.float .f64 0] n) 28))] []) := frq_perm HQ.out (by simp) (by have hn := HQ.out.nod; simp only [List.map_cons, List.map_nil, List.nodup_cons, List.mem_cons, List.not_mem_nil, or_false, not_or, not_false_iff, List.nodup_nil, and_true] at hn ⊢; omega) (by simp)
                  have hfin := HS1abc.out X g4 t10 t11 HQ
                  rw [hG.out, hA.out] at hfin
                  simp only [Act.put, List.setIfInBounds_toArray, List.set_cons_zero, List.set_cons_succ] at hfin
                  exact hfin
              have HS1ac : Hid (∀ (W : World)  (g4 t11 : Nat), Hid (FrQ w3 W [(t11, StBox 0 0 0 none 0 0), (g4, (.cells (madeCells #[.float .f64 0] n) 28))] []) → G 10 #[true, true, true, true, true, true, true, true, false, false, false, false, false, false, false, true, false, false, false] (Act.put (Act.put (Act.put (A0) (some 47) (.float .f64 R)) (some 45) (.slice (some ⟨g4, 0, none⟩) n n)) (some 11) (.pointer (some ⟨t11, 0, none⟩))) W) := fun W g4 t11 HQ => by
                rw [hG.out, hA.out]
                simp only [Act.put, List.setIfInBounds_toArray, List.set_cons_zero, List.set_cons_succ]
                refine wpAnyH_ready (rs := [8, 14]) (by kernel_rfl) (by simp) ?_
                refine AllReadyH.cons (o := _) rfl (fun K hK => ?_) (AllReadyH.cons (o := _) rfl (fun K hK => ?_) AllReadyH.nil)
                · go_simp
                  refine (HFZ2.out W).mono ?_
                  rintro e X ⟨rfl, hb⟩
                  have HQ := hid (HQ.out.call hb)
                  clear hb
                  go_wp2_with fail
                  refine hK.out _ _ (HKT.out _ HQ.out.bel) (fun hHeld => ?_)
                  clear hK K
                  try simp only [List.setIfInBounds_toArray, List.set_cons_zero, List.set_cons_succ]
                  have hfin := HS2ac.out X g4 t11 HQ
                  rw [hG.out, hA.out] at hfin
                  simp only [Act.put, List.setIfInBounds_toArray, List.set_cons_zero, List.set_cons_succ] at hfin
                  exact hfin
                · go_simp
                  go_wp2_with fail
                  have HQ := hid (HQ.out.alloc (RBox none 0 0 0 0 none 0 0))
                  refine hK.out _ _ (HKT.out _ HQ.out.bel) (fun hHeld => ?_)
                  clear hK K
                  try simp only [List.setIfInBounds_toArray, List.set_cons_zero, List.set_cons_succ]
                  obtain ⟨X, hX, HQ⟩ := frq_name HQ.out
                  obtain ⟨t10, ht10, HQ⟩ := frq_head HQ.out
                  have hy := hX.out
                  unfold RBox at hy
                  have hz := ht10.out
                  rw [hy, hz]
                  clear hy
                  clear hz
                  have HQ : Hid (FrQ w3 X [(t11, StBox 0 0 0 none 0 0), (t10, RBox none 0 0 0 0 none 0 0), (g4, (.cells (madeCells #[.float .f64 0] n) 28))] []) := frq_perm HQ.out (by simp) (by have hn := HQ.out.nod; simp only [List.map_cons, List.map_nil, List.nodup_cons, List.mem_cons, List.not_mem_nil, or_false, not_or, not_false_iff, List.nodup_nil, and_true] at hn ⊢; omega) (by simp)
                  have hfin := HS1abc.out X g4 t10 t11 HQ
                  rw [hG.out, hA.out] at hfin
                  simp only [Act.put, List.setIfInBounds_toArray, List.set_cons_zero, List.set_cons_succ] at hfin
                  exact hfin
              have HS1bc : Hid (∀ (W : World)  (t10 t11 : Nat), Hid (FrQ w3 W [(t11, StBox 0 0 0 none 0 0), (t10, RBox none 0 0 0 0 none 0 0)] []) → G 10 #[true, true, true, true, false, true, true, true, false, false, false, false, false, false, true, true, false, false, false] (Act.put (Act.put (Act.put (A0) (some 47) (.float .f64 R)) (some 10) (.pointer (some ⟨t10, 0, none⟩))) (some 11) (.pointer (some ⟨t11, 0, none⟩))) W) := fun W t10 t11 HQ => by
                rw [hG.out, hA.out]
                simp only [Act.put, List.setIfInBounds_toArray, List.set_cons_zero, List.set_cons_succ]
                refine wpAnyH_ready (rs := [4, 8]) (by kernel_rfl) (by simp) ?_
                refine AllReadyH.cons (o := _) rfl (fun K hK => ?_) (AllReadyH.cons (o := _) rfl (fun K hK => ?_) AllReadyH.nil)
                · go_simp
                  go_wp2_with fail
                  have HQ := hid (HQ.out.alloc ((.cells (madeCells #[.float .f64 0] n) 28)))
                  refine hK.out _ _ (HKT.out _ HQ.out.bel) (fun hHeld => ?_)
                  clear hK K
                  try simp only [List.setIfInBounds_toArray, List.set_cons_zero, List.set_cons_succ]
                  obtain ⟨X, hX, HQ⟩ := frq_name HQ.out
                  obtain ⟨g4, hg4, HQ⟩ := frq_head HQ.out
                  have hy := hX.out
                  have hz := hg4.out
                  rw [hy, hz]
                  clear hy
                  clear hz
                  have HQ : Hid (FrQ w3 X [(t11, StBox 0 0 0 none 0 0), (t10, RBox none 0 0 0 0 none 0 0), (g4, (.cells (madeCells #[.float .f64 0] n) 28))] []) := frq_perm HQ.out (by simp) (by have hn := HQ.out.nod; simp only [List.map_cons, List.map_nil, List.nodup_cons, List.mem_cons, List.not_mem_nil, or_false, not_or, not_false_iff, List.nodup_nil, and_true] at hn ⊢; omega) (by simp)
                  have hfin := HS1abc.out X g4 t10 t11 HQ
                  rw [hG.out, hA.out] at hfin
                  simp only [Act.put, List.setIfInBounds_toArray, List.set_cons_zero, List.set_cons_succ] at hfin
                  exact hfin
                · go_simp
                  refine (HFZ2.out W).mono ?_
                  rintro e X ⟨rfl, hb⟩
                  have HQ := hid (HQ.out.call hb)
                  clear hb
                  go_wp2_with fail
                  refine hK.out _ _ (HKT.out _ HQ.out.bel) (fun hHeld => ?_)
                  clear hK K
                  try simp only [List.setIfInBounds_toArray, List.set_cons_zero, List.set_cons_succ]
                  have hfin := HS2bc.out X t10 t11 HQ
                  rw [hG.out, hA.out] at hfin
                  simp only [Act.put, List.setIfInBounds_toArray, List.set_cons_zero, List.set_cons_succ] at hfin
                  exact hfin
              have HS0abc : Hid (∀ (W : World) (g4 t10 t11 : Nat), Hid (FrQ w3 W [(t11, StBox 0 0 0 none 0 0), (t10, RBox none 0 0 0 0 none 0 0), (g4, (.cells (madeCells #[.float .f64 0] n) 28))] []) → G 10 #[true, true, true, true, true, true, false, true, false, false, false, false, false, false, true, true, false, false, false] (Act.put (Act.put (Act.put (A0) (some 45) (.slice (some ⟨g4, 0, none⟩) n n)) (some 10) (.pointer (some ⟨t10, 0, none⟩))) (some 11) (.pointer (some ⟨t11, 0, none⟩))) W) := fun W g4 t10 t11 HQ => by
                rw [hG.out, hA.out]
                simp only [Act.put, List.setIfInBounds_toArray, List.set_cons_zero, List.set_cons_succ]
                refine wpAnyH_ready (rs := [6]) (by kernel_rfl) (by simp) ?_
                refine AllReadyH.cons (o := _) rfl (fun K hK => ?_) AllReadyH.nil
                go_simp
                refine (HFR2.out W).mono ?_
                rintro e X ⟨rfl, hb⟩
                have HQ := hid (HQ.out.call hb)
                clear hb
                go_wp2_with fail
                refine hK.out _ _ (HKT.out _ HQ.out.bel) (fun hHeld => ?_)
                clear hK K
                try simp only [List.setIfInBounds_toArray, List.set_cons_zero, List.set_cons_succ]
                have hfin := HS1abc.out X g4 t10 t11 HQ
                rw [hG.out, hA.out] at hfin
                simp only [Act.put, List.setIfInBounds_toArray, List.set_cons_zero, List.set_cons_succ] at hfin
                exact hfin
              clear HS3a HS2ab HS2ac HS2bc HS1abc
              have HS2 : Hid (∀ (W : World)  , Hid (FrQ w3 W [] []) → G 11 #[true, true, true, true, false, true, true, true, true, false, false, false, false, false, false, false, false, false, false] (Act.put (Act.put (A0) (some 47) (.float .f64 R)) (some 49) (.float .f64 Z)) W) := fun W  HQ => by
                rw [hG.out, hA.out]
                simp only [Act.put, List.setIfInBounds_toArray, List.set_cons_zero, List.set_cons_succ]
                refine wpAnyH_ready (rs := [4, 14, 15]) (by kernel_rfl) (by simp) ?_
                refine AllReadyH.cons (o := _) rfl (fun K hK => ?_) (AllReadyH.cons (o := _) rfl (fun K hK => ?_) (AllReadyH.cons (o := _) rfl (fun K hK => ?_) AllReadyH.nil))
                · go_simp
                  go_wp2_with fail
                  have HQ := hid (HQ.out.alloc ((.cells (madeCells #[.float .f64 0] n) 28)))
                  refine hK.out _ _ (HKT.out _ HQ.out.bel) (fun hHeld => ?_)
                  clear hK K
                  try simp only [List.setIfInBounds_toArray, List.set_cons_zero, List.set_cons_succ]
                  obtain ⟨X, hX, HQ⟩ := frq_name HQ.out
                  obtain ⟨g4, hg4, HQ⟩ := frq_head HQ.out
                  have hy := hX.out
                  have hz := hg4.out
                  rw [hy, hz]
                  clear hy
                  clear hz
                  have HQ : Hid (FrQ w3 X [(g4, (.cells (madeCells #[.float .f64 0] n) 28))] []) := frq_perm HQ.out (by simp) (by simp) (by simp)
                  have hfin := HS2a.out X g4 HQ
                  rw [hG.out, hA.out] at hfin
                  simp only [Act.put, List.setIfInBounds_toArray, List.set_cons_zero, List.set_cons_succ] at hfin
                  exact hfin
                · go_simp
                  go_wp2_with fail
                  have HQ := hid (HQ.out.alloc (RBox none 0 0 0 0 none 0 0))
                  refine hK.out _ _ (HKT.out _ HQ.out.bel) (fun hHeld => ?_)
                  clear hK K
                  try simp only [List.setIfInBounds_toArray, List.set_cons_zero, List.set_cons_succ]
                  obtain ⟨X, hX, HQ⟩ := frq_name HQ.out
                  obtain ⟨t10, ht10, HQ⟩ := frq_head HQ.out
                  have hy := hX.out
                  unfold RBox at hy
                  have hz := ht10.out
                  rw [hy, hz]
                  clear hy
                  clear hz
                  have HQ : Hid (FrQ w3 X [(t10, RBox none 0 0 0 0 none 0 0)] []) := frq_perm HQ.out (by simp) (by simp) (by simp)
                  have hfin := HS2b.out X t10 HQ
                  rw [hG.out, hA.out] at hfin
                  simp only [Act.put, List.setIfInBounds_toArray, List.set_cons_zero, List.set_cons_succ] at hfin
                  exact hfin
                · go_simp
                  go_wp2_with fail
                  have HQ := hid (HQ.out.alloc (StBox 0 0 0 none 0 0))
                  refine hK.out _ _ (HKT.out _ HQ.out.bel) (fun hHeld => ?_)
                  clear hK K
                  try simp only [List.setIfInBounds_toArray, List.set_cons_zero, List.set_cons_succ]
                  obtain ⟨X, hX, HQ⟩ := frq_name HQ.out
                  obtain ⟨t11, ht11, HQ⟩ := frq_head HQ.out
                  have hy := hX.out
                  unfold StBox at hy
                  have hz := ht11.out
                  rw [hy, hz]
                  clear hy
                  clear hz
                  have HQ : Hid (FrQ w3 X [(t11, StBox 0 0 0 none 0 0)] []) := frq_perm HQ.out (by simp) (by simp) (by simp)
                  have hfin := HS2c.out X t11 HQ
                  rw [hG.out, hA.out] at hfin
                  simp only [Act.put, List.setIfInBounds_toArray, List.set_cons_zero, List.set_cons_succ] at hfin
                  exact hfin
              have HS1a : Hid (∀ (W : World)  (g4 : Nat), Hid (FrQ w3 W [(g4, (.cells (madeCells #[.float .f64 0] n) 28))] []) → G 11 #[true, true, true, true, true, true, true, true, false, false, false, false, false, false, false, false, false, false, false] (Act.put (Act.put (A0) (some 47) (.float .f64 R)) (some 45) (.slice (some ⟨g4, 0, none⟩) n n)) W) := fun W g4 HQ => by
                rw [hG.out, hA.out]
                simp only [Act.put, List.setIfInBounds_toArray, List.set_cons_zero, List.set_cons_succ]
                refine wpAnyH_ready (rs := [8, 14, 15]) (by kernel_rfl) (by simp) ?_
                refine AllReadyH.cons (o := _) rfl (fun K hK => ?_) (AllReadyH.cons (o := _) rfl (fun K hK => ?_) (AllReadyH.cons (o := _) rfl (fun K hK => ?_) AllReadyH.nil))
                · go_simp
                  refine (HFZ2.out W).mono ?_
                  rintro e X ⟨rfl, hb⟩
                  have HQ := hid (HQ.out.call hb)
                  clear hb
                  go_wp2_with fail
                  refine hK.out _ _ (HKT.out _ HQ.out.bel) (fun hHeld => ?_)
                  clear hK K
                  try simp only [List.setIfInBounds_toArray, List.set_cons_zero, List.set_cons_succ]
                  have hfin := HS2a.out X g4 HQ
                  rw [hG.out, hA.out] at hfin
                  simp only [Act.put, List.setIfInBounds_toArray, List.set_cons_zero, List.set_cons_succ] at hfin
                  exact hfin
                · go_simp
                  go_wp2_with fail
                  have HQ := hid (HQ.out.alloc (RBox none 0 0 0 0 none 0 0))
                  refine hK.out _ _ (HKT.out _ HQ.out.bel) (fun hHeld => ?_)
                  clear hK K
                  try simp only [List.setIfInBounds_toArray, List.set_cons_zero, List.set_cons_succ]
                  obtain ⟨X, hX, HQ⟩ := frq_name HQ.out
                  obtain ⟨t10, ht10, HQ⟩ := frq_head HQ.out
                  have hy := hX.out
                  unfold RBox at hy
                  have hz := ht10.out
                  rw [hy, hz]
                  clear hy
                  clear hz
                  have HQ : Hid (FrQ w3 X [(t10, RBox none 0 0 0 0 none 0 0), (g4, (.cells (madeCells #[.float .f64 0] n) 28))] []) := frq_perm HQ.out (by simp) (by have hn := HQ.out.nod; simp only [List.map_cons, List.map_nil, List.nodup_cons, List.mem_cons, List.not_mem_nil, or_false, not_false_iff, List.nodup_nil, and_true] at hn ⊢; omega) (by simp)
                  have hfin := HS1ab.out X g4 t10 HQ
                  rw [hG.out, hA.out] at hfin
                  simp only [Act.put, List.setIfInBounds_toArray, List.set_cons_zero, List.set_cons_succ] at hfin
                  exact hfin
                · go_simp
                  go_wp2_with fail
                  have HQ := hid (HQ.out.alloc (StBox 0 0 0 none 0 0))
                  refine hK.out _ _ (HKT.out _ HQ.out.bel) (fun hHeld => ?_)
                  clear hK K
                  try simp only [List.setIfInBounds_toArray, List.set_cons_zero, List.set_cons_succ]
                  obtain ⟨X, hX, HQ⟩ := frq_name HQ.out
                  obtain ⟨t11, ht11, HQ⟩ := frq_head HQ.out
                  have hy := hX.out
                  unfold StBox at hy
                  have hz := ht11.out
                  rw [hy, hz]
                  clear hy
                  clear hz
                  have HQ : Hid (FrQ w3 X [(t11, StBox 0 0 0 none 0 0), (g4, (.cells (madeCells #[.float .f64 0] n) 28))] []) := frq_perm HQ.out (by simp) (by have hn := HQ.out.nod; simp only [List.map_cons, List.map_nil, List.nodup_cons, List.mem_cons, List.not_mem_nil, or_false, not_false_iff, List.nodup_nil, and_true] at hn ⊢; omega) (by simp)
                  have hfin := HS1ac.out X g4 t11 HQ
                  rw [hG.out, hA.out] at hfin
                  simp only [Act.put, List.setIfInBounds_toArray, List.set_cons_zero, List.set_cons_succ] at hfin
                  exact hfin
              have HS1b : Hid (∀ (W : World)  (t10 : Nat), Hid (FrQ w3 W [(t10, RBox none 0 0 0 0 none 0 0)] []) → G 11 #[true, true, true, true, false, true, true, true, false, false, false, false, false, false, true, false, false, false, false] (Act.put (Act.put (A0) (some 47) (.float .f64 R)) (some 10) (.pointer (some ⟨t10, 0, none⟩))) W) := fun W t10 HQ => by
                rw [hG.out, hA.out]
                simp only [Act.put, List.setIfInBounds_toArray, List.set_cons_zero, List.set_cons_succ]
                refine wpAnyH_ready (rs := [4, 8, 15]) (by kernel_rfl) (by simp) ?_
                refine AllReadyH.cons (o := _) rfl (fun K hK => ?_) (AllReadyH.cons (o := _) rfl (fun K hK => ?_) (AllReadyH.cons (o := _) rfl (fun K hK => ?_) AllReadyH.nil))
                · go_simp
                  go_wp2_with fail
                  have HQ := hid (HQ.out.alloc ((.cells (madeCells #[.float .f64 0] n) 28)))
                  refine hK.out _ _ (HKT.out _ HQ.out.bel) (fun hHeld => ?_)
                  clear hK K
                  try simp only [List.setIfInBounds_toArray, List.set_cons_zero, List.set_cons_succ]
                  obtain ⟨X, hX, HQ⟩ := frq_name HQ.out
                  obtain ⟨g4, hg4, HQ⟩ := frq_head HQ.out
                  have hy := hX.out
                  have hz := hg4.out
                  rw [hy, hz]
                  clear hy
                  clear hz
                  have HQ : Hid (FrQ w3 X [(t10, RBox none 0 0 0 0 none 0 0), (g4, (.cells (madeCells #[.float .f64 0] n) 28))] []) := frq_perm HQ.out (by simp) (by have hn := HQ.out.nod; simp only [List.map_cons, List.map_nil, List.nodup_cons, List.mem_cons, List.not_mem_nil, or_false, not_false_iff, List.nodup_nil, and_true] at hn ⊢; omega) (by simp)
                  have hfin := HS1ab.out X g4 t10 HQ
                  rw [hG.out, hA.out] at hfin
                  simp only [Act.put, List.setIfInBounds_toArray, List.set_cons_zero, List.set_cons_succ] at hfin
                  exact hfin
                · go_simp
                  refine (HFZ2.out W).mono ?_
                  rintro e X ⟨rfl, hb⟩
                  have HQ := hid (HQ.out.call hb)
                  clear hb
                  go_wp2_with fail
                  refine hK.out _ _ (HKT.out _ HQ.out.bel) (fun hHeld => ?_)
                  clear hK K
                  try simp only [List.setIfInBounds_toArray, List.set_cons_zero, List.set_cons_succ]
                  have hfin := HS2b.out X t10 HQ
                  rw [hG.out, hA.out] at hfin
                  simp only [Act.put, List.setIfInBounds_toArray, List.set_cons_zero, List.set_cons_succ] at hfin
                  exact hfin
                · go_simp
                  go_wp2_with fail
                  have HQ := hid (HQ.out.alloc (StBox 0 0 0 none 0 0))
                  refine hK.out _ _ (HKT.out _ HQ.out.bel) (fun hHeld => ?_)
                  clear hK K
                  try simp only [List.setIfInBounds_toArray, List.set_cons_zero, List.set_cons_succ]
                  obtain ⟨X, hX, HQ⟩ := frq_name HQ.out
                  obtain ⟨t11, ht11, HQ⟩ := frq_head HQ.out
                  have hy := hX.out
                  unfold StBox at hy
                  have hz := ht11.out
                  rw [hy, hz]
                  clear hy
                  clear hz
                  have HQ : Hid (FrQ w3 X [(t11, StBox 0 0 0 none 0 0), (t10, RBox none 0 0 0 0 none 0 0)] []) := frq_perm HQ.out (by simp) (by have hn := HQ.out.nod; simp only [List.map_cons, List.map_nil, List.nodup_cons, List.mem_cons, List.not_mem_nil, or_false, not_false_iff, List.nodup_nil, and_true] at hn ⊢; omega) (by simp)
                  have hfin := HS1bc.out X t10 t11 HQ
                  rw [hG.out, hA.out] at hfin
                  simp only [Act.put, List.setIfInBounds_toArray, List.set_cons_zero, List.set_cons_succ] at hfin
                  exact hfin
              have HS1c : Hid (∀ (W : World)  (t11 : Nat), Hid (FrQ w3 W [(t11, StBox 0 0 0 none 0 0)] []) → G 11 #[true, true, true, true, false, true, true, true, false, false, false, false, false, false, false, true, false, false, false] (Act.put (Act.put (A0) (some 47) (.float .f64 R)) (some 11) (.pointer (some ⟨t11, 0, none⟩))) W) := fun W t11 HQ => by
                rw [hG.out, hA.out]
                simp only [Act.put, List.setIfInBounds_toArray, List.set_cons_zero, List.set_cons_succ]
                refine wpAnyH_ready (rs := [4, 8, 14]) (by kernel_rfl) (by simp) ?_
                refine AllReadyH.cons (o := _) rfl (fun K hK => ?_) (AllReadyH.cons (o := _) rfl (fun K hK => ?_) (AllReadyH.cons (o := _) rfl (fun K hK => ?_) AllReadyH.nil))
                · go_simp
                  go_wp2_with fail
                  have HQ := hid (HQ.out.alloc ((.cells (madeCells #[.float .f64 0] n) 28)))
                  refine hK.out _ _ (HKT.out _ HQ.out.bel) (fun hHeld => ?_)
                  clear hK K
                  try simp only [List.setIfInBounds_toArray, List.set_cons_zero, List.set_cons_succ]
                  obtain ⟨X, hX, HQ⟩ := frq_name HQ.out
                  obtain ⟨g4, hg4, HQ⟩ := frq_head HQ.out
                  have hy := hX.out
                  have hz := hg4.out
                  rw [hy, hz]
                  clear hy
                  clear hz
                  have HQ : Hid (FrQ w3 X [(t11, StBox 0 0 0 none 0 0), (g4, (.cells (madeCells #[.float .f64 0] n) 28))] []) := frq_perm HQ.out (by simp) (by have hn := HQ.out.nod; simp only [List.map_cons, List.map_nil, List.nodup_cons, List.mem_cons, List.not_mem_nil, or_false, not_false_iff, List.nodup_nil, and_true] at hn ⊢; omega) (by simp)
                  have hfin := HS1ac.out X g4 t11 HQ
                  rw [hG.out, hA.out] at hfin
                  simp only [Act.put, List.setIfInBounds_toArray, List.set_cons_zero, List.set_cons_succ] at hfin
                  exact hfin
                · go_simp
                  refine (HFZ2.out W).mono ?_
                  rintro e X ⟨rfl, hb⟩
                  have HQ := hid (HQ.out.call hb)
                  clear hb
                  go_wp2_with fail
                  refine hK.out _ _ (HKT.out _ HQ.out.bel) (fun hHeld => ?_)
                  clear hK K
                  try simp only [List.setIfInBounds_toArray, List.set_cons_zero, List.set_cons_succ]
                  have hfin := HS2c.out X t11 HQ
                  rw [hG.out, hA.out] at hfin
                  simp only [Act.put, List.setIfInBounds_toArray, List.set_cons_zero, List.set_cons_succ] at hfin
                  exact hfin
                · go_simp
                  go_wp2_with fail
                  have HQ := hid (HQ.out.alloc (RBox none 0 0 0 0 none 0 0))
                  refine hK.out _ _ (HKT.out _ HQ.out.bel) (fun hHeld => ?_)
                  clear hK K
                  try simp only [List.setIfInBounds_toArray, List.set_cons_zero, List.set_cons_succ]
                  obtain ⟨X, hX, HQ⟩ := frq_name HQ.out
                  obtain ⟨t10, ht10, HQ⟩ := frq_head HQ.out
                  have hy := hX.out
                  unfold RBox at hy
                  have hz := ht10.out
                  rw [hy, hz]
                  clear hy
                  clear hz
                  have HQ : Hid (FrQ w3 X [(t11, StBox 0 0 0 none 0 0), (t10, RBox none 0 0 0 0 none 0 0)] []) := frq_perm HQ.out (by simp) (by have hn := HQ.out.nod; simp only [List.map_cons, List.map_nil, List.nodup_cons, List.mem_cons, List.not_mem_nil, or_false, not_false_iff, List.nodup_nil, and_true] at hn ⊢; omega) (by simp)
                  have hfin := HS1bc.out X t10 t11 HQ
                  rw [hG.out, hA.out] at hfin
                  simp only [Act.put, List.setIfInBounds_toArray, List.set_cons_zero, List.set_cons_succ] at hfin
                  exact hfin
              have HS0ab : Hid (∀ (W : World) (g4 t10 : Nat), Hid (FrQ w3 W [(t10, RBox none 0 0 0 0 none 0 0), (g4, (.cells (madeCells #[.float .f64 0] n) 28))] []) → G 11 #[true, true, true, true, true, true, false, true, false, false, false, false, false, false, true, false, false, false, false] (Act.put (Act.put (A0) (some 45) (.slice (some ⟨g4, 0, none⟩) n n)) (some 10) (.pointer (some ⟨t10, 0, none⟩))) W) := fun W g4 t10 HQ => by
                rw [hG.out, hA.out]
                simp only [Act.put, List.setIfInBounds_toArray, List.set_cons_zero, List.set_cons_succ]
                refine wpAnyH_ready (rs := [6, 15]) (by kernel_rfl) (by simp) ?_
                refine AllReadyH.cons (o := _) rfl (fun K hK => ?_) (AllReadyH.cons (o := _) rfl (fun K hK => ?_) AllReadyH.nil)
                · go_simp
                  refine (HFR2.out W).mono ?_
                  rintro e X ⟨rfl, hb⟩
                  have HQ := hid (HQ.out.call hb)
                  clear hb
                  go_wp2_with fail
                  refine hK.out _ _ (HKT.out _ HQ.out.bel) (fun hHeld => ?_)
                  clear hK K
                  try simp only [List.setIfInBounds_toArray, List.set_cons_zero, List.set_cons_succ]
                  have hfin := HS1ab.out X g4 t10 HQ
                  rw [hG.out, hA.out] at hfin
                  simp only [Act.put, List.setIfInBounds_toArray, List.set_cons_zero, List.set_cons_succ] at hfin
                  exact hfin
                · go_simp
                  go_wp2_with fail
                  have HQ := hid (HQ.out.alloc (StBox 0 0 0 none 0 0))
                  refine hK.out _ _ (HKT.out _ HQ.out.bel) (fun hHeld => ?_)
                  clear hK K
                  try simp only [List.setIfInBounds_toArray, List.set_cons_zero, List.set_cons_succ]
                  obtain ⟨X, hX, HQ⟩ := frq_name HQ.out
                  obtain ⟨t11, ht11, HQ⟩ := frq_head HQ.out
                  have hy := hX.out
                  unfold StBox at hy
                  have hz := ht11.out
                  rw [hy, hz]
                  clear hy
                  clear hz
                  have HQ : Hid (FrQ w3 X [(t11, StBox 0 0 0 none 0 0), (t10, RBox none 0 0 0 0 none 0 0), (g4, (.cells (madeCells #[.float .f64 0] n) 28))] []) := frq_perm HQ.out (by simp) (by have hn := HQ.out.nod; simp only [List.map_cons, List.map_nil, List.nodup_cons, List.mem_cons, List.not_mem_nil, or_false, not_or, not_false_iff, List.nodup_nil, and_true] at hn ⊢; omega) (by simp)
                  have hfin := HS0abc.out X g4 t10 t11 HQ
                  rw [hG.out, hA.out] at hfin
                  simp only [Act.put, List.setIfInBounds_toArray, List.set_cons_zero, List.set_cons_succ] at hfin
                  exact hfin
              have HS0ac : Hid (∀ (W : World) (g4 t11 : Nat), Hid (FrQ w3 W [(t11, StBox 0 0 0 none 0 0), (g4, (.cells (madeCells #[.float .f64 0] n) 28))] []) → G 11 #[true, true, true, true, true, true, false, true, false, false, false, false, false, false, false, true, false, false, false] (Act.put (Act.put (A0) (some 45) (.slice (some ⟨g4, 0, none⟩) n n)) (some 11) (.pointer (some ⟨t11, 0, none⟩))) W) := fun W g4 t11 HQ => by
                rw [hG.out, hA.out]
                simp only [Act.put, List.setIfInBounds_toArray, List.set_cons_zero, List.set_cons_succ]
                refine wpAnyH_ready (rs := [6, 14]) (by kernel_rfl) (by simp) ?_
                refine AllReadyH.cons (o := _) rfl (fun K hK => ?_) (AllReadyH.cons (o := _) rfl (fun K hK => ?_) AllReadyH.nil)
                · go_simp
                  refine (HFR2.out W).mono ?_
                  rintro e X ⟨rfl, hb⟩
                  have HQ := hid (HQ.out.call hb)
                  clear hb
                  go_wp2_with fail
                  refine hK.out _ _ (HKT.out _ HQ.out.bel) (fun hHeld => ?_)
                  clear hK K
                  try simp only [List.setIfInBounds_toArray, List.set_cons_zero, List.set_cons_succ]
                  have hfin := HS1ac.out X g4 t11 HQ
                  rw [hG.out, hA.out] at hfin
                  simp only [Act.put, List.setIfInBounds_toArray, List.set_cons_zero, List.set_cons_succ] at hfin
                  exact hfin
                · go_simp
                  go_wp2_with fail
                  have HQ := hid (HQ.out.alloc (RBox none 0 0 0 0 none 0 0))
                  refine hK.out _ _ (HKT.out _ HQ.out.bel) (fun hHeld => ?_)
                  clear hK K
                  try simp only [List.setIfInBounds_toArray, List.set_cons_zero, List.set_cons_succ]
                  obtain ⟨X, hX, HQ⟩ := frq_name HQ.out
                  obtain ⟨t10, ht10, HQ⟩ := frq_head HQ.out
                  have hy := hX.out
                  unfold RBox at hy
                  have hz := ht10.out
                  rw [hy, hz]
                  clear hy
                  clear hz
                  have HQ : Hid (FrQ w3 X [(t11, StBox 0 0 0 none 0 0), (t10, RBox none 0 0 0 0 none 0 0), (g4, (.cells (madeCells #[.float .f64 0] n) 28))] []) := frq_perm HQ.out (by simp) (by have hn := HQ.out.nod; simp only [List.map_cons, List.map_nil, List.nodup_cons, List.mem_cons, List.not_mem_nil, or_false, not_or, not_false_iff, List.nodup_nil, and_true] at hn ⊢; omega) (by simp)
                  have hfin := HS0abc.out X g4 t10 t11 HQ
                  rw [hG.out, hA.out] at hfin
                  simp only [Act.put, List.setIfInBounds_toArray, List.set_cons_zero, List.set_cons_succ] at hfin
                  exact hfin
              have HS0bc : Hid (∀ (W : World) (t10 t11 : Nat), Hid (FrQ w3 W [(t11, StBox 0 0 0 none 0 0), (t10, RBox none 0 0 0 0 none 0 0)] []) → G 11 #[true, true, true, true, false, true, false, true, false, false, false, false, false, false, true, true, false, false, false] (Act.put (Act.put (A0) (some 10) (.pointer (some ⟨t10, 0, none⟩))) (some 11) (.pointer (some ⟨t11, 0, none⟩))) W) := fun W t10 t11 HQ => by
                rw [hG.out, hA.out]
                simp only [Act.put, List.setIfInBounds_toArray, List.set_cons_zero, List.set_cons_succ]
                refine wpAnyH_ready (rs := [4, 6]) (by kernel_rfl) (by simp) ?_
                refine AllReadyH.cons (o := _) rfl (fun K hK => ?_) (AllReadyH.cons (o := _) rfl (fun K hK => ?_) AllReadyH.nil)
                · go_simp
                  go_wp2_with fail
                  have HQ := hid (HQ.out.alloc ((.cells (madeCells #[.float .f64 0] n) 28)))
                  refine hK.out _ _ (HKT.out _ HQ.out.bel) (fun hHeld => ?_)
                  clear hK K
                  try simp only [List.setIfInBounds_toArray, List.set_cons_zero, List.set_cons_succ]
                  obtain ⟨X, hX, HQ⟩ := frq_name HQ.out
                  obtain ⟨g4, hg4, HQ⟩ := frq_head HQ.out
                  have hy := hX.out
                  have hz := hg4.out
                  rw [hy, hz]
                  clear hy
                  clear hz
                  have HQ : Hid (FrQ w3 X [(t11, StBox 0 0 0 none 0 0), (t10, RBox none 0 0 0 0 none 0 0), (g4, (.cells (madeCells #[.float .f64 0] n) 28))] []) := frq_perm HQ.out (by simp) (by have hn := HQ.out.nod; simp only [List.map_cons, List.map_nil, List.nodup_cons, List.mem_cons, List.not_mem_nil, or_false, not_or, not_false_iff, List.nodup_nil, and_true] at hn ⊢; omega) (by simp)
                  have hfin := HS0abc.out X g4 t10 t11 HQ
                  rw [hG.out, hA.out] at hfin
                  simp only [Act.put, List.setIfInBounds_toArray, List.set_cons_zero, List.set_cons_succ] at hfin
                  exact hfin
                · go_simp
                  refine (HFR2.out W).mono ?_
                  rintro e X ⟨rfl, hb⟩
                  have HQ := hid (HQ.out.call hb)
                  clear hb
                  go_wp2_with fail
                  refine hK.out _ _ (HKT.out _ HQ.out.bel) (fun hHeld => ?_)
                  clear hK K
                  try simp only [List.setIfInBounds_toArray, List.set_cons_zero, List.set_cons_succ]
                  have hfin := HS1bc.out X t10 t11 HQ
                  rw [hG.out, hA.out] at hfin
                  simp only [Act.put, List.setIfInBounds_toArray, List.set_cons_zero, List.set_cons_succ] at hfin
                  exact hfin
              clear HS2a HS2b HS2c HS1ab HS1ac HS1bc HS0abc
              have HS1 : Hid (∀ (W : World)  , Hid (FrQ w3 W [] []) → G 12 #[true, true, true, true, false, true, true, true, false, false, false, false, false, false, false, false, false, false, false] (Act.put (A0) (some 47) (.float .f64 R)) W) := fun W  HQ => by
                rw [hG.out, hA.out]
                simp only [Act.put, List.setIfInBounds_toArray, List.set_cons_zero, List.set_cons_succ]
                refine wpAnyH_ready (rs := [4, 8, 14, 15]) (by kernel_rfl) (by simp) ?_
                refine AllReadyH.cons (o := _) rfl (fun K hK => ?_) (AllReadyH.cons (o := _) rfl (fun K hK => ?_) (AllReadyH.cons (o := _) rfl (fun K hK => ?_) (AllReadyH.cons (o := _) rfl (fun K hK => ?_) AllReadyH.nil)))
                · go_simp
                  go_wp2_with fail
                  have HQ := hid (HQ.out.alloc ((.cells (madeCells #[.float .f64 0] n) 28)))
                  refine hK.out _ _ (HKT.out _ HQ.out.bel) (fun hHeld => ?_)
                  clear hK K
                  try simp only [List.setIfInBounds_toArray, List.set_cons_zero, List.set_cons_succ]
                  obtain ⟨X, hX, HQ⟩ := frq_name HQ.out
                  obtain ⟨g4, hg4, HQ⟩ := frq_head HQ.out
                  have hy := hX.out
                  have hz := hg4.out
                  rw [hy, hz]
                  clear hy
                  clear hz
                  have HQ : Hid (FrQ w3 X [(g4, (.cells (madeCells #[.float .f64 0] n) 28))] []) := frq_perm HQ.out (by simp) (by simp) (by simp)
                  have hfin := HS1a.out X g4 HQ
                  rw [hG.out, hA.out] at hfin
                  simp only [Act.put, List.setIfInBounds_toArray, List.set_cons_zero, List.set_cons_succ] at hfin
                  exact hfin
                · go_simp
                  refine (HFZ2.out W).mono ?_
                  rintro e X ⟨rfl, hb⟩
                  have HQ := hid (HQ.out.call hb)
                  clear hb
                  go_wp2_with fail
                  refine hK.out _ _ (HKT.out _ HQ.out.bel) (fun hHeld => ?_)
                  clear hK K
                  try simp only [List.setIfInBounds_toArray, List.set_cons_zero, List.set_cons_succ]
                  have hfin := HS2.out X  HQ
                  rw [hG.out, hA.out] at hfin
                  simp only [Act.put, List.setIfInBounds_toArray, List.set_cons_zero, List.set_cons_succ] at hfin
                  exact hfin
                · go_simp
                  go_wp2_with fail
                  have HQ := hid (HQ.out.alloc (RBox none 0 0 0 0 none 0 0))
                  refine hK.out _ _ (HKT.out _ HQ.out.bel) (fun hHeld => ?_)
                  clear hK K
                  try simp only [List.setIfInBounds_toArray, List.set_cons_zero, List.set_cons_succ]
                  obtain ⟨X, hX, HQ⟩ := frq_name HQ.out
                  obtain ⟨t10, ht10, HQ⟩ := frq_head HQ.out
                  have hy := hX.out
                  unfold RBox at hy
                  have hz := ht10.out
                  rw [hy, hz]
                  clear hy
                  clear hz
                  have HQ : Hid (FrQ w3 X [(t10, RBox none 0 0 0 0 none 0 0)] []) := frq_perm HQ.out (by simp) (by simp) (by simp)
                  have hfin := HS1b.out X t10 HQ
                  rw [hG.out, hA.out] at hfin
                  simp only [Act.put, List.setIfInBounds_toArray, List.set_cons_zero, List.set_cons_succ] at hfin
                  exact hfin
                · go_simp
                  go_wp2_with fail
                  have HQ := hid (HQ.out.alloc (StBox 0 0 0 none 0 0))
                  refine hK.out _ _ (HKT.out _ HQ.out.bel) (fun hHeld => ?_)
                  clear hK K
                  try simp only [List.setIfInBounds_toArray, List.set_cons_zero, List.set_cons_succ]
                  obtain ⟨X, hX, HQ⟩ := frq_name HQ.out
                  obtain ⟨t11, ht11, HQ⟩ := frq_head HQ.out
                  have hy := hX.out
                  unfold StBox at hy
                  have hz := ht11.out
                  rw [hy, hz]
                  clear hy
                  clear hz
                  have HQ : Hid (FrQ w3 X [(t11, StBox 0 0 0 none 0 0)] []) := frq_perm HQ.out (by simp) (by simp) (by simp)
                  have hfin := HS1c.out X t11 HQ
                  rw [hG.out, hA.out] at hfin
                  simp only [Act.put, List.setIfInBounds_toArray, List.set_cons_zero, List.set_cons_succ] at hfin
                  exact hfin
              have HS0a : Hid (∀ (W : World) (g4 : Nat), Hid (FrQ w3 W [(g4, (.cells (madeCells #[.float .f64 0] n) 28))] []) → G 12 #[true, true, true, true, true, true, false, true, false, false, false, false, false, false, false, false, false, false, false] (Act.put (A0) (some 45) (.slice (some ⟨g4, 0, none⟩) n n)) W) := fun W g4 HQ => by
                rw [hG.out, hA.out]
                simp only [Act.put, List.setIfInBounds_toArray, List.set_cons_zero, List.set_cons_succ]
                refine wpAnyH_ready (rs := [6, 14, 15]) (by kernel_rfl) (by simp) ?_
                refine AllReadyH.cons (o := _) rfl (fun K hK => ?_) (AllReadyH.cons (o := _) rfl (fun K hK => ?_) (AllReadyH.cons (o := _) rfl (fun K hK => ?_) AllReadyH.nil))
                · go_simp
                  refine (HFR2.out W).mono ?_
                  rintro e X ⟨rfl, hb⟩
                  have HQ := hid (HQ.out.call hb)
                  clear hb
                  go_wp2_with fail
                  refine hK.out _ _ (HKT.out _ HQ.out.bel) (fun hHeld => ?_)
                  clear hK K
                  try simp only [List.setIfInBounds_toArray, List.set_cons_zero, List.set_cons_succ]
                  have hfin := HS1a.out X g4 HQ
                  rw [hG.out, hA.out] at hfin
                  simp only [Act.put, List.setIfInBounds_toArray, List.set_cons_zero, List.set_cons_succ] at hfin
                  exact hfin
                · go_simp
                  go_wp2_with fail
                  have HQ := hid (HQ.out.alloc (RBox none 0 0 0 0 none 0 0))
                  refine hK.out _ _ (HKT.out _ HQ.out.bel) (fun hHeld => ?_)
                  clear hK K
                  try simp only [List.setIfInBounds_toArray, List.set_cons_zero, List.set_cons_succ]
                  obtain ⟨X, hX, HQ⟩ := frq_name HQ.out
                  obtain ⟨t10, ht10, HQ⟩ := frq_head HQ.out
                  have hy := hX.out
                  unfold RBox at hy
                  have hz := ht10.out
                  rw [hy, hz]
                  clear hy
                  clear hz
                  have HQ : Hid (FrQ w3 X [(t10, RBox none 0 0 0 0 none 0 0), (g4, (.cells (madeCells #[.float .f64 0] n) 28))] []) := frq_perm HQ.out (by simp) (by have hn := HQ.out.nod; simp only [List.map_cons, List.map_nil, List.nodup_cons, List.mem_cons, List.not_mem_nil, or_false, not_false_iff, List.nodup_nil, and_true] at hn ⊢; omega) (by simp)
                  have hfin := HS0ab.out X g4 t10 HQ
                  rw [hG.out, hA.out] at hfin
                  simp only [Act.put, List.setIfInBounds_toArray, List.set_cons_zero, List.set_cons_succ] at hfin
                  exact hfin
                · go_simp
                  go_wp2_with fail
                  have HQ := hid (HQ.out.alloc (StBox 0 0 0 none 0 0))
                  refine hK.out _ _ (HKT.out _ HQ.out.bel) (fun hHeld => ?_)
                  clear hK K
                  try simp only [List.setIfInBounds_toArray, List.set_cons_zero, List.set_cons_succ]
                  obtain ⟨X, hX, HQ⟩ := frq_name HQ.out
                  obtain ⟨t11, ht11, HQ⟩ := frq_head HQ.out
                  have hy := hX.out
                  unfold StBox at hy
                  have hz := ht11.out
                  rw [hy, hz]
                  clear hy
                  clear hz
                  have HQ : Hid (FrQ w3 X [(t11, StBox 0 0 0 none 0 0), (g4, (.cells (madeCells #[.float .f64 0] n) 28))] []) := frq_perm HQ.out (by simp) (by have hn := HQ.out.nod; simp only [List.map_cons, List.map_nil, List.nodup_cons, List.mem_cons, List.not_mem_nil, or_false, not_false_iff, List.nodup_nil, and_true] at hn ⊢; omega) (by simp)
                  have hfin := HS0ac.out X g4 t11 HQ
                  rw [hG.out, hA.out] at hfin
                  simp only [Act.put, List.setIfInBounds_toArray, List.set_cons_zero, List.set_cons_succ] at hfin
                  exact hfin
              have HS0b : Hid (∀ (W : World) (t10 : Nat), Hid (FrQ w3 W [(t10, RBox none 0 0 0 0 none 0 0)] []) → G 12 #[true, true, true, true, false, true, false, true, false, false, false, false, false, false, true, false, false, false, false] (Act.put (A0) (some 10) (.pointer (some ⟨t10, 0, none⟩))) W) := fun W t10 HQ => by
                rw [hG.out, hA.out]
                simp only [Act.put, List.setIfInBounds_toArray, List.set_cons_zero, List.set_cons_succ]
                refine wpAnyH_ready (rs := [4, 6, 15]) (by kernel_rfl) (by simp) ?_
                refine AllReadyH.cons (o := _) rfl (fun K hK => ?_) (AllReadyH.cons (o := _) rfl (fun K hK => ?_) (AllReadyH.cons (o := _) rfl (fun K hK => ?_) AllReadyH.nil))
                · go_simp
                  go_wp2_with fail
                  have HQ := hid (HQ.out.alloc ((.cells (madeCells #[.float .f64 0] n) 28)))
                  refine hK.out _ _ (HKT.out _ HQ.out.bel) (fun hHeld => ?_)
                  clear hK K
                  try simp only [List.setIfInBounds_toArray, List.set_cons_zero, List.set_cons_succ]
                  obtain ⟨X, hX, HQ⟩ := frq_name HQ.out
                  obtain ⟨g4, hg4, HQ⟩ := frq_head HQ.out
                  have hy := hX.out
                  have hz := hg4.out
                  rw [hy, hz]
                  clear hy
                  clear hz
                  have HQ : Hid (FrQ w3 X [(t10, RBox none 0 0 0 0 none 0 0), (g4, (.cells (madeCells #[.float .f64 0] n) 28))] []) := frq_perm HQ.out (by simp) (by have hn := HQ.out.nod; simp only [List.map_cons, List.map_nil, List.nodup_cons, List.mem_cons, List.not_mem_nil, or_false, not_false_iff, List.nodup_nil, and_true] at hn ⊢; omega) (by simp)
                  have hfin := HS0ab.out X g4 t10 HQ
                  rw [hG.out, hA.out] at hfin
                  simp only [Act.put, List.setIfInBounds_toArray, List.set_cons_zero, List.set_cons_succ] at hfin
                  exact hfin
                · go_simp
                  refine (HFR2.out W).mono ?_
                  rintro e X ⟨rfl, hb⟩
                  have HQ := hid (HQ.out.call hb)
                  clear hb
                  go_wp2_with fail
                  refine hK.out _ _ (HKT.out _ HQ.out.bel) (fun hHeld => ?_)
                  clear hK K
                  try simp only [List.setIfInBounds_toArray, List.set_cons_zero, List.set_cons_succ]
                  have hfin := HS1b.out X t10 HQ
                  rw [hG.out, hA.out] at hfin
                  simp only [Act.put, List.setIfInBounds_toArray, List.set_cons_zero, List.set_cons_succ] at hfin
                  exact hfin
                · go_simp
                  go_wp2_with fail
                  have HQ := hid (HQ.out.alloc (StBox 0 0 0 none 0 0))
                  refine hK.out _ _ (HKT.out _ HQ.out.bel) (fun hHeld => ?_)
                  clear hK K
                  try simp only [List.setIfInBounds_toArray, List.set_cons_zero, List.set_cons_succ]
                  obtain ⟨X, hX, HQ⟩ := frq_name HQ.out
                  obtain ⟨t11, ht11, HQ⟩ := frq_head HQ.out
                  have hy := hX.out
                  unfold StBox at hy
                  have hz := ht11.out
                  rw [hy, hz]
                  clear hy
                  clear hz
                  have HQ : Hid (FrQ w3 X [(t11, StBox 0 0 0 none 0 0), (t10, RBox none 0 0 0 0 none 0 0)] []) := frq_perm HQ.out (by simp) (by have hn := HQ.out.nod; simp only [List.map_cons, List.map_nil, List.nodup_cons, List.mem_cons, List.not_mem_nil, or_false, not_false_iff, List.nodup_nil, and_true] at hn ⊢; omega) (by simp)
                  have hfin := HS0bc.out X t10 t11 HQ
                  rw [hG.out, hA.out] at hfin
                  simp only [Act.put, List.setIfInBounds_toArray, List.set_cons_zero, List.set_cons_succ] at hfin
                  exact hfin
              have HS0c : Hid (∀ (W : World) (t11 : Nat), Hid (FrQ w3 W [(t11, StBox 0 0 0 none 0 0)] []) → G 12 #[true, true, true, true, false, true, false, true, false, false, false, false, false, false, false, true, false, false, false] (Act.put (A0) (some 11) (.pointer (some ⟨t11, 0, none⟩))) W) := fun W t11 HQ => by
                rw [hG.out, hA.out]
                simp only [Act.put, List.setIfInBounds_toArray, List.set_cons_zero, List.set_cons_succ]
                refine wpAnyH_ready (rs := [4, 6, 14]) (by kernel_rfl) (by simp) ?_
                refine AllReadyH.cons (o := _) rfl (fun K hK => ?_) (AllReadyH.cons (o := _) rfl (fun K hK => ?_) (AllReadyH.cons (o := _) rfl (fun K hK => ?_) AllReadyH.nil))
                · go_simp
                  go_wp2_with fail
                  have HQ := hid (HQ.out.alloc ((.cells (madeCells #[.float .f64 0] n) 28)))
                  refine hK.out _ _ (HKT.out _ HQ.out.bel) (fun hHeld => ?_)
                  clear hK K
                  try simp only [List.setIfInBounds_toArray, List.set_cons_zero, List.set_cons_succ]
                  obtain ⟨X, hX, HQ⟩ := frq_name HQ.out
                  obtain ⟨g4, hg4, HQ⟩ := frq_head HQ.out
                  have hy := hX.out
                  have hz := hg4.out
                  rw [hy, hz]
                  clear hy
                  clear hz
                  have HQ : Hid (FrQ w3 X [(t11, StBox 0 0 0 none 0 0), (g4, (.cells (madeCells #[.float .f64 0] n) 28))] []) := frq_perm HQ.out (by simp) (by have hn := HQ.out.nod; simp only [List.map_cons, List.map_nil, List.nodup_cons, List.mem_cons, List.not_mem_nil, or_false, not_false_iff, List.nodup_nil, and_true] at hn ⊢; omega) (by simp)
                  have hfin := HS0ac.out X g4 t11 HQ
                  rw [hG.out, hA.out] at hfin
                  simp only [Act.put, List.setIfInBounds_toArray, List.set_cons_zero, List.set_cons_succ] at hfin
                  exact hfin
                · go_simp
                  refine (HFR2.out W).mono ?_
                  rintro e X ⟨rfl, hb⟩
                  have HQ := hid (HQ.out.call hb)
                  clear hb
                  go_wp2_with fail
                  refine hK.out _ _ (HKT.out _ HQ.out.bel) (fun hHeld => ?_)
                  clear hK K
                  try simp only [List.setIfInBounds_toArray, List.set_cons_zero, List.set_cons_succ]
                  have hfin := HS1c.out X t11 HQ
                  rw [hG.out, hA.out] at hfin
                  simp only [Act.put, List.setIfInBounds_toArray, List.set_cons_zero, List.set_cons_succ] at hfin
                  exact hfin
                · go_simp
                  go_wp2_with fail
                  have HQ := hid (HQ.out.alloc (RBox none 0 0 0 0 none 0 0))
                  refine hK.out _ _ (HKT.out _ HQ.out.bel) (fun hHeld => ?_)
                  clear hK K
                  try simp only [List.setIfInBounds_toArray, List.set_cons_zero, List.set_cons_succ]
                  obtain ⟨X, hX, HQ⟩ := frq_name HQ.out
                  obtain ⟨t10, ht10, HQ⟩ := frq_head HQ.out
                  have hy := hX.out
                  unfold RBox at hy
                  have hz := ht10.out
                  rw [hy, hz]
                  clear hy
                  clear hz
                  have HQ : Hid (FrQ w3 X [(t11, StBox 0 0 0 none 0 0), (t10, RBox none 0 0 0 0 none 0 0)] []) := frq_perm HQ.out (by simp) (by have hn := HQ.out.nod; simp only [List.map_cons, List.map_nil, List.nodup_cons, List.mem_cons, List.not_mem_nil, or_false, not_false_iff, List.nodup_nil, and_true] at hn ⊢; omega) (by simp)
                  have hfin := HS0bc.out X t10 t11 HQ
                  rw [hG.out, hA.out] at hfin
                  simp only [Act.put, List.setIfInBounds_toArray, List.set_cons_zero, List.set_cons_succ] at hfin
                  exact hfin
              clear HS2 HS1a HS1b HS1c HS0ab HS0ac HS0bc
              have HS0 : Hid (∀ (W : World) , Hid (FrQ w3 W [] []) → G 13 #[true, true, true, true, false, true, false, true, false, false, false, false, false, false, false, false, false, false, false] (A0) W) := fun W  HQ => by
                rw [hG.out, hA.out]
                refine wpAnyH_ready (rs := [4, 6, 14, 15]) (by kernel_rfl) (by simp) ?_
                refine AllReadyH.cons (o := _) rfl (fun K hK => ?_) (AllReadyH.cons (o := _) rfl (fun K hK => ?_) (AllReadyH.cons (o := _) rfl (fun K hK => ?_) (AllReadyH.cons (o := _) rfl (fun K hK => ?_) AllReadyH.nil)))
                · go_simp
                  go_wp2_with fail
                  have HQ := hid (HQ.out.alloc ((.cells (madeCells #[.float .f64 0] n) 28)))
                  refine hK.out _ _ (HKT.out _ HQ.out.bel) (fun hHeld => ?_)
                  clear hK K
                  try simp only [List.setIfInBounds_toArray, List.set_cons_zero, List.set_cons_succ]
                  obtain ⟨X, hX, HQ⟩ := frq_name HQ.out
                  obtain ⟨g4, hg4, HQ⟩ := frq_head HQ.out
                  have hy := hX.out
                  have hz := hg4.out
                  rw [hy, hz]
                  clear hy
                  clear hz
                  have HQ : Hid (FrQ w3 X [(g4, (.cells (madeCells #[.float .f64 0] n) 28))] []) := frq_perm HQ.out (by simp) (by simp) (by simp)
                  have hfin := HS0a.out X g4 HQ
                  rw [hG.out, hA.out] at hfin
                  simp only [Act.put, List.setIfInBounds_toArray, List.set_cons_zero, List.set_cons_succ] at hfin
                  exact hfin
                · go_simp
                  refine (HFR2.out W).mono ?_
                  rintro e X ⟨rfl, hb⟩
                  have HQ := hid (HQ.out.call hb)
                  clear hb
                  go_wp2_with fail
                  refine hK.out _ _ (HKT.out _ HQ.out.bel) (fun hHeld => ?_)
                  clear hK K
                  try simp only [List.setIfInBounds_toArray, List.set_cons_zero, List.set_cons_succ]
                  have hfin := HS1.out X  HQ
                  rw [hG.out, hA.out] at hfin
                  simp only [Act.put, List.setIfInBounds_toArray, List.set_cons_zero, List.set_cons_succ] at hfin
                  exact hfin
                · go_simp
                  go_wp2_with fail
                  have HQ := hid (HQ.out.alloc (RBox none 0 0 0 0 none 0 0))
                  refine hK.out _ _ (HKT.out _ HQ.out.bel) (fun hHeld => ?_)
                  clear hK K
                  try simp only [List.setIfInBounds_toArray, List.set_cons_zero, List.set_cons_succ]
                  obtain ⟨X, hX, HQ⟩ := frq_name HQ.out
                  obtain ⟨t10, ht10, HQ⟩ := frq_head HQ.out
                  have hy := hX.out
                  unfold RBox at hy
                  have hz := ht10.out
                  rw [hy, hz]
                  clear hy
                  clear hz
                  have HQ : Hid (FrQ w3 X [(t10, RBox none 0 0 0 0 none 0 0)] []) := frq_perm HQ.out (by simp) (by simp) (by simp)
                  have hfin := HS0b.out X t10 HQ
                  rw [hG.out, hA.out] at hfin
                  simp only [Act.put, List.setIfInBounds_toArray, List.set_cons_zero, List.set_cons_succ] at hfin
                  exact hfin
                · go_simp
                  go_wp2_with fail
                  have HQ := hid (HQ.out.alloc (StBox 0 0 0 none 0 0))
                  refine hK.out _ _ (HKT.out _ HQ.out.bel) (fun hHeld => ?_)
                  clear hK K
                  try simp only [List.setIfInBounds_toArray, List.set_cons_zero, List.set_cons_succ]
                  obtain ⟨X, hX, HQ⟩ := frq_name HQ.out
                  obtain ⟨t11, ht11, HQ⟩ := frq_head HQ.out
                  have hy := hX.out
                  unfold StBox at hy
                  have hz := ht11.out
                  rw [hy, hz]
                  clear hy
                  clear hz
                  have HQ : Hid (FrQ w3 X [(t11, StBox 0 0 0 none 0 0)] []) := frq_perm HQ.out (by simp) (by simp) (by simp)
                  have hfin := HS0c.out X t11 HQ
                  rw [hG.out, hA.out] at hfin
                  simp only [Act.put, List.setIfInBounds_toArray, List.set_cons_zero, List.set_cons_succ] at hfin
                  exact hfin
              exact HS0.out _ HQ0
          · rintro a' w4 ⟨g4, t10, t11, ux, k1, k2, r1, c1, ul, k3, k4, Y, A, S1, ug, k5, k6, EE, rfl, hb4, hh1, hh2, hbl⟩
            simp only [Act.put, List.setIfInBounds_toArray, List.set_cons_zero, List.set_cons_succ]
            have HB5 := hid (HB4.out.trans (hb4.mono HB4.out.size))
            have HD := hid hb4
            have H10 := hid hh1
            have H11 := hid hh2
            have HBL := hid hbl
            clear hb4 hh1 hh2 hmk
            obtain ⟨c0, c1x, c2, c3⟩ := rcells_of H10.out
            rcases HBL.out with h | h
            · obtain ⟨rfl, hk1, hk3, hA, gx, gl, xo, lo, hux, hul, hxo, hlo, hex, hel⟩ := h
              rw [hux] at hxo
              rw [hul] at hlo
              subst hux
              subst hul
              have HK1 : Hid (k1 = n ∧ k3 = n * n ∧ A = R) := ⟨hk1, hk3, hA⟩
              have HXO := hid hxo
              have HLO := hid hlo
              have HEX := hid hex
              have HEL := hid hel
              clear hxo hlo hex hel hk1 hk3 hA
              obtain ⟨MM, hMM⟩ : ∃ t, Hid (m = t ∧ n * n = t) := ⟨m, rfl, HGD.out.2.2.1.symm⟩
              have HX4 := hid ((HX3.out.below HD.out))
              have HM4 := hid ((HM3.out.below HD.out))
              have HQ4 := hid (blkM HQ3.out HD.out)
              obtain ⟨k1e, k3e, hAe⟩ := HK1.out
              subst k1e
              obtain ⟨me, ne⟩ := hMM.out
              have k3m : k3 = m := k3e.trans (ne.trans me.symm)
              have HMN : Hid (m = k1 * k1) := me.trans ne.symm
              subst k3m
              subst hAe
              clear k3e me ne HK1 hMM
              obtain ⟨x0, x1, x2, x3⟩ := rcells_of HQ4.out
              obtain ⟨d0, d1, d2, d3⟩ := scells_of H11.out
              have hn12 := HN12.out
              have hk144 : k3 ≤ 144 := by have := HMN.out; have := Nat.mul_le_mul hn12 hn12; omega
              have HLO2 : Hid (FnM w4 (some ⟨gl, 0, none⟩) k3 k4 lo) := by have := HLO.out; rw [← HMN.out] at this; exact this
              go_wp2_with fail
              go_loopw [13] (fun iv wr => ∃ i : Nat, i ≤ k1 ∧ iv = .int .i64 i ∧ Hid (Below w4.heap.size w4 wr)) (fun iv _ => k1 - (intOf iv).toNat)
              case atStart => exact ⟨0, Nat.zero_le _, rfl, Below.refl _ _⟩
              case round =>
                obtain ⟨i, hi, rfl, HW⟩ := hrel
                obtain ⟨c0, c1x, c2, c3⟩ := rcells_of (blkM H10.out HW.out)
                obtain ⟨x0, x1, x2, x3⟩ := rcells_of (blkM HQ4.out HW.out)
                by_cases hlt : i < k1
                · have hiI : (i : Int) < (k1 : Int) := by omega
                  have hi0 : (0 : Int) ≤ (i : Int) := by omega
                  have wi : IntKind.i64.wrap ((i : Int) + 1) = (i : Int) + 1 := IntWalk.i64_in _ (by omega)
                  obtain ⟨bz, oz, ez, hbz, hzc⟩ := fn_some (HX4.out.below HW.out).fn (by omega)
                  obtain ⟨by1, oy, ey, hby, hyc⟩ := fn_some (HXO.out.below HW.out) (by omega)
                  cases ey
                  subst ez
                  have z1 := (hzc i hlt).1
                  have y1 := (hyc i hlt).1
                  rw [Nat.zero_add] at y1
                  have hq : (FloatKind.f64.format.order (xo i) (zs.getD i 0) != some .eq) = false := eq_x (HEX.out i hlt) (zfin HE.out HX4.out hlt)
                  obtain ⟨a1, ha1⟩ : ∃ t, Hid (xo i = t) := ⟨_, rfl⟩
                  obtain ⟨a2, ha2⟩ : ∃ t, Hid (zs.getD i 0 = t) := ⟨_, rfl⟩
                  rw [ha1.out, ha2.out] at hq
                  rw [ha1.out] at y1
                  rw [ha2.out] at z1
                  clear hbz hzc hby hyc
                  go_wp2_with fail
                  go_quiet (fail)
                  go_wp2_with fail
                  go_roundw
                  case rel => exact ⟨i + 1, by omega, by go_num, bl_drewN _ HW.out⟩
                  case measure => simp [intOf]; omega
                · obtain rfl : k1 = i := by omega
                  go_wp2_with fail
                  go_loopw [14] (fun iv wr => ∃ i : Nat, i ≤ k3 ∧ iv = .int .i64 i ∧ Hid (Below w4.heap.size w4 wr)) (fun iv _ => k3 - (intOf iv).toNat)
                  case atStart => exact ⟨0, Nat.zero_le _, rfl, HW⟩
                  case round =>
                    obtain ⟨i, hi, rfl, HW⟩ := hrel
                    obtain ⟨c0, c1x, c2, c3⟩ := rcells_of (blkM H10.out HW.out)
                    obtain ⟨x0, x1, x2, x3⟩ := rcells_of (blkM HQ4.out HW.out)
                    by_cases hlt : i < k3
                    · have hiI : (i : Int) < (k3 : Int) := by omega
                      have hi0 : (0 : Int) ≤ (i : Int) := by omega
                      have wi : IntKind.i64.wrap ((i : Int) + 1) = (i : Int) + 1 := IntWalk.i64_in _ (by omega)
                      obtain ⟨bz, oz, ez, hbz, hzc⟩ := fn_some (HM4.out.below HW.out).fn (by omega)
                      obtain ⟨by1, oy, ey, hby, hyc⟩ := fn_some (HLO2.out.below HW.out) (by omega)
                      cases ey
                      subst ez
                      have z1 := (hzc i hlt).1
                      have y1 := (hyc i hlt).1
                      rw [Nat.zero_add] at y1
                      have hq : (FloatKind.f64.format.order (lo i) (xs.getD i 0) != some .eq) = false := eq_l (HEL.out i (by have := HMN.out; omega)) (xfin HGD.out HMN.out i (by have := HMN.out; omega))
                      obtain ⟨a1, ha1⟩ : ∃ t, Hid (lo i = t) := ⟨_, rfl⟩
                      obtain ⟨a2, ha2⟩ : ∃ t, Hid (xs.getD i 0 = t) := ⟨_, rfl⟩
                      rw [ha1.out, ha2.out] at hq
                      rw [ha1.out] at y1
                      rw [ha2.out] at z1
                      clear hbz hzc hby hyc
                      go_wp2_with fail
                      go_quiet (fail)
                      go_wp2_with fail
                      go_roundw
                      case rel => exact ⟨i + 1, by omega, by go_num, bl_drewN _ HW.out⟩
                      case measure => simp [intOf]; omega
                    · obtain rfl : k3 = i := by omega
                      have HK9 : Hid (∀ W, W = wr.drew → W.cell? ⟨t11, 1, none⟩ = some (.float .f64 A)) := fun W h => by rw [h]; exact (scells_of (blkM H11.out HW.out)).2.1
                      have HB6 := hid (HB5.out.trans (HW.out.mono HB5.out.size))
                      have hAc : (A == canonOf A) = true := by rw [canon_nn (by have := HRP.out.1; omega)]; simp
                      have HSA := HSM.out A
                      rw [hAc] at HSA
                      have HSAH := hid HSA
                      clear HSA
                      go_wp2_with fail
                      refine wp_region_held_drew (S := fun W => W.cell? ⟨t11, 1, none⟩ = some (.float .f64 A)) (by kernel_rfl) (HK9.out _ rfl) (fun hHeld => ?_)
                      refine take_at 0 123 (.pointer (some ⟨t11, 1, none⟩)) rfl rfl (by kernel_rfl) (by kernel_rfl) (by kernel_rfl) (fun _ _ _ h => h) (Or.inl ⟨by rfl, fun w hSw => by (try dsimp only at hSw); go_simp⟩) (by assumption) ?_
                      simp only [Act.put, List.setIfInBounds_toArray, List.set_cons_zero, List.set_cons_succ]
                      refine take_at 1 124 (.float .f64 A) rfl rfl (by kernel_rfl) (by kernel_rfl) (by kernel_rfl) (fun _ _ _ h => h) (Or.inl ⟨by rfl, fun w hSw => by (try dsimp only at hSw); go_simp⟩) (by assumption) ?_
                      simp only [Act.put, List.setIfInBounds_toArray, List.set_cons_zero, List.set_cons_succ]
                      refine take_at 2 125 (.int .u64 A) rfl rfl (by kernel_rfl) (by kernel_rfl) (by kernel_rfl) (fun _ _ _ h => h) (Or.inl ⟨by rfl, fun w hSw => by (try dsimp only at hSw); go_simp⟩) (by assumption) ?_
                      simp only [Act.put, List.setIfInBounds_toArray, List.set_cons_zero, List.set_cons_succ]
                      refine wpAnyH_ready (rs := [3]) (by kernel_rfl) (by simp) ?_
                      refine AllReadyH.cons (o := _) rfl (fun K hK => ?_) AllReadyH.nil
                      go_simp
                      refine (HFR.out _).mono ?_
                      rintro e ww ⟨rfl, hw⟩
                      rw [hw]
                      clear hw
                      go_wp2_with fail
                      refine hK.out _ _ (HK9.out _ rfl) (fun hHeld1 => ?_)
                      clear hK K
                      try simp only [Act.put, List.setIfInBounds_toArray, List.set_cons_zero, List.set_cons_succ]
                      refine wpAnyH_ready (rs := [4]) (by kernel_rfl) (by simp) ?_
                      refine AllReadyH.cons (o := _) rfl (fun K hK => ?_) AllReadyH.nil
                      go_simp
                      refine (HSAH.out _).mono ?_
                      rintro e ww ⟨rfl, hw⟩
                      rw [hw]
                      clear hw
                      go_wp2_with fail
                      refine hK.out _ _ (HK9.out _ rfl) (fun hHeld2 => ?_)
                      clear hK K
                      try simp only [Act.put, List.setIfInBounds_toArray, List.set_cons_zero, List.set_cons_succ]
                      refine take_at 5 8 (.bool true) rfl rfl (by kernel_rfl) (by kernel_rfl) (by kernel_rfl) (fun _ _ _ h => h) (Or.inl ⟨by rfl, fun w hSw => by (try dsimp only at hSw); go_simp⟩) (by assumption) ?_
                      simp only [Act.put, List.setIfInBounds_toArray, List.set_cons_zero, List.set_cons_succ]
                      refine wpAnyH_done (by kernel_rfl) ?_ _
                      go_wp2_with fail
                      go_ret
                      first | exact ⟨rfl, HB6.out.drew⟩ | exact ⟨rfl, hp5.out ▸ HB6.out.drew⟩
            · obtain ⟨rfl, rfl, rfl, rfl, rfl⟩ := h
              go_wp2_with fail
              go_ret
              first | exact ⟨rfl, HB5.out⟩ | exact ⟨rfl, hp5.out ▸ HB5.out⟩
    · have h1 : (FloatKind.f64.format.order R 0 == some .gt) = false := by simpa using hgt
      go_wp2_with fail
      refine (HFR.out w3).mono ?_
      rintro e ww ⟨rfl, hw⟩
      rw [hw]
      clear hw
      go_wp2_with fail
      go_ret
      first | exact ⟨rfl, HB4.out⟩ | exact ⟨rfl, hp5.out ▸ HB4.out⟩
  · have hne : (E != 0) = true := by simpa using hE0
    go_wp2_with fail
    go_ret
    first | exact ⟨rfl, HB4.out⟩ | exact ⟨rfl, hp5.out ▸ HB4.out⟩
end Go.Proofs.Ytglgjkhfoajflaa
