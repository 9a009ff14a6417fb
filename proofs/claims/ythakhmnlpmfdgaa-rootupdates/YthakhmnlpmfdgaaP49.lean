
/- The law RootUpdates. (Written by mkrtam.py.) -/
import Derived.Test.YthakhmnlpmfdgaaP48
namespace Go.Proofs.Ythakhmnlpmfdgaa
open Go.RowKit Go.IntWalk

/-- A row of the law as a variable. -/
def R6Box (wh : Option Addr) (q wk R Z : Nat) : Obj := .cells #[.slice wh q wk, .int .u64 (R : Int), .int .u64 (Z : Int)] 27
theorem r6cells_of {w : World} {b : Nat} {wh : Option Addr} {q wk R Z : Nat} (h : w.heap[b]? = some (R6Box wh q wk R Z)) : w.cell? ⟨b, 0, none⟩ = some (.slice wh q wk) ∧ w.cell? ⟨b, 1, none⟩ = some (.int .u64 (R : Int)) ∧ w.cell? ⟨b, 2, none⟩ = some (.int .u64 (Z : Int)) := by
  unfold R6Box at h
  refine ⟨?_, ?_, ?_⟩ <;> simp [World.cell?, h]
set_option maxRecDepth 8000 in
set_option maxHeartbeats 16000000 in
theorem rupdates_walk (sx : Option Addr) (n kx : Nat) (zs : List Nat) (r c : Int) (sm : Option Addr) (m km : Nat) (xs : List Nat) (wh : Option Addr) (q wk : Nat) (hs : List Nat) (R Z : Nat) (w : World) (hu : U64At w sx n zs) (hn : n ≤ 17592186043904) (hv : U64At w sm m xs) (hm : m ≤ 17592186043904) (hw : U64At w wh q hs) (hq : q ≤ 17592186043904) (hR : R < 18446744073709551616) (hZ : Z < 18446744073709551616) :
    Calls Try.prog 3 #[.slice sx n kx, .agg #[.int .i64 r, .int .i64 c, .slice sm m km], .agg #[.slice wh q wk, .int .u64 (R : Int), .int .u64 (Z : Int)]] w fun e w' => e = .returned (.bool true) ∧ Below w.heap.size w w' := by
  have HAW := hid awake16_any
  have HOF := hid (fun W (hW : Below w.heap.size w W) => of16_any sx n kx zs r c sm m km xs W (hu.below hW) hn (hv.below hW) hm)
  have HL2 : Hid (∀ W, Below w.heap.size w W → Calls Try.prog 7 #[.slice wh q wk] W fun e w' => (∃ th ch, e = .returned (.slice th q ch) ∧ FlM w' th q ch hs) ∧ Below W.heap.size W w') := fun W hW => (l16_any wh q wk hs W (hw.below hW) hq).mono (by rintro e w' ⟨a, b, h1, h2, h3⟩; exact ⟨⟨a, b, h1, h2⟩, h3⟩)
  have HNM : Hid (n ≤ 17592186043904 ∧ m ≤ 17592186043904 ∧ q ≤ 17592186043904) := ⟨hn, hm, hq⟩
  have HRZ := hid (And.intro hR hZ)
  have HFR : Hid (∀ W, Calls Try.prog 8 #[.int .u64 (R : Int)] W fun e w' => e = .returned (.float .f64 R) ∧ w' = W) := fun W => f16_any R W
  have HFR2 : Hid (∀ W, Calls Try.prog 8 #[.int .u64 (R : Int)] W fun e w' => e = .returned (.float .f64 R) ∧ Below W.heap.size W w') := fun W => (f16_any R W).mono (by rintro e w' ⟨h, rfl⟩; exact ⟨h, Below.refl _ _⟩)
  have HFZ2 : Hid (∀ W, Calls Try.prog 8 #[.int .u64 (Z : Int)] W fun e w' => e = .returned (.float .f64 Z) ∧ Below W.heap.size W w') := fun W => (f16_any Z W).mono (by rintro e w' ⟨h, rfl⟩; exact ⟨h, Below.refl _ _⟩)
  have HFO : Hid (∀ W ta ca tb cb th ch, FlM W ta n ca zs → FlM W tb m cb xs → FlM W th q ch hs → Calls Try.prog 5 #[.agg #[.slice ta n ca, .int .i64 r, .int .i64 c, .slice tb m cb], .slice th q ch, .float .f64 R] W fun e w' => e = .returned (.tuple #[.float .f64 (fP (forT zs n r c m xs q hs R) hs zs n), .float .f64 (fQ (forT zs n r c m xs q hs R) (fun j => xs.getD j 0) hs n R), .int .i64 (forT zs n r c m xs q hs R)]) ∧ Below W.heap.size W w') := fun W ta ca tb cb th ch h1 h2 h3 => Foresee_is ta n ca zs r c tb m cb xs th q ch R hs W h1 HNM.out.1 h2 HNM.out.2.1 h3 HNM.out.2.2 HRZ.out.1
  have HFD : Hid (∀ W ta ca tb cb th ch, FlM W ta n ca zs → FlM W tb m cb xs → FlM W th q ch hs → Calls Try.prog 9 #[.agg #[.slice ta n ca, .int .i64 r, .int .i64 c, .slice tb m cb], .slice th q ch, .float .f64 R] W fun e w' => (∃ U V : Nat, e = .returned (.tuple #[.float .f64 U, .float .f64 V, .int .i64 (forT zs n r c m xs q hs R)]) ∧ (U < 18446744073709551616 ∧ V < 18446744073709551616) ∧ canonOf U = fP (forT zs n r c m xs q hs R) hs zs n ∧ canonOf V = fQ (forT zs n r c m xs q hs R) (fun j => xs.getD j 0) hs n R) ∧ Below W.heap.size W w') := fun W ta ca tb cb th ch h1 h2 h3 => rForesee_is ta n ca zs r c tb m cb xs th q ch R hs W h1 HNM.out.1 h2 HNM.out.2.1 h3 HNM.out.2.2 HRZ.out.1
  have HUP := hid (fun W ta ca tb cb th ch (h1 : FlM W ta n ca zs) (h2 : FlM W tb m cb xs) (h3 : FlM W th q ch hs) => Update_is ta n ca zs r c tb m cb xs th q ch R Z hs W h1 HNM.out.1 h2 HNM.out.2.1 h3 HNM.out.2.2 HRZ.out.1 HRZ.out.2)
  have HUD := hid (fun W ta ca tb cb th ch (h1 : FlM W ta n ca zs) (h2 : FlM W tb m cb xs) (h3 : FlM W th q ch hs) => rUpdate_is ta n ca zs r c tb m cb xs th q ch R Z hs W h1 HNM.out.1 h2 HNM.out.2.1 h3 HNM.out.2.2 HRZ.out.1 HRZ.out.2)
  obtain ⟨EF, hEF⟩ : ∃ t, Hid (forT zs n r c m xs q hs R = t) := ⟨_, rfl⟩
  rw [hEF.out] at HFO HFD
  obtain ⟨EE, hEE⟩ : ∃ t, Hid (updT zs n r c m xs q hs R Z = t) := ⟨_, rfl⟩
  rw [hEE.out] at HUP HUD
  obtain ⟨P1, hP1⟩ : ∃ t, Hid (fP EF hs zs n = t) := ⟨_, rfl⟩
  obtain ⟨Q1, hQ1⟩ : ∃ t, Hid (fQ EF (fun j => xs.getD j 0) hs n R = t) := ⟨_, rfl⟩
  rw [hP1.out, hQ1.out] at HFO HFD
  obtain ⟨f, hf⟩ : ∃ t : Nat → Nat, Hid ((fun j => xs.getD j 0) = t) := ⟨_, rfl⟩
  rw [hf.out] at HUP HUD
  obtain ⟨t1, t2, t3, t4⟩ := two_b w (B6Box r c sm m km) (R6Box wh q wk R Z)
  obtain ⟨V, hV⟩ : ∃ t, Hid ((w.alloc (B6Box r c sm m km)).alloc (R6Box wh q wk R Z) = t) := ⟨_, rfl⟩
  rw [hV.out] at t1 t2 t3 t4
  have hV' := hV.out
  unfold B6Box R6Box at hV'
  obtain ⟨p4, hp4⟩ : ∃ t, Hid (w.heap.size = t) := ⟨_, rfl⟩
  obtain ⟨p5, hp5⟩ : ∃ t, Hid (p4 + 1 = t) := ⟨_, rfl⟩
  rw [hp4.out] at t1 t2
  rw [hp5.out] at t2
  have e0 := hp4.out
  have e1 := hp5.out
  have q0 : Hid (Below w.heap.size w V.drew ∧ V.drew.heap[p4]? = some (B6Box r c sm m km) ∧ V.drew.heap[p5]? = some (R6Box wh q wk R Z)) := ⟨t3.drew, t1, t2⟩
  have HKS : Hid (∀ W, Hid (Below w.heap.size w W ∧ W.heap[p4]? = some (B6Box r c sm m km) ∧ W.heap[p5]? = some (R6Box wh q wk R Z)) → ((W.cell? ⟨p4, 0, none⟩ = some (.int .i64 r) ∧ W.cell? ⟨p4, 1, none⟩ = some (.int .i64 c) ∧ W.cell? ⟨p4, 2, none⟩ = some (.slice sm m km)) ∧ (W.cell? ⟨p5, 0, none⟩ = some (.slice wh q wk) ∧ W.cell? ⟨p5, 1, none⟩ = some (.int .u64 R) ∧ W.cell? ⟨p5, 2, none⟩ = some (.int .u64 Z))) ∧ Hid (Below w.heap.size w W ∧ W.heap[p4]? = some (B6Box r c sm m km) ∧ W.heap[p5]? = some (R6Box wh q wk R Z))) := fun W hW => ⟨⟨b6cells_of hW.out.2.1, r6cells_of hW.out.2.2⟩, hW⟩
  clear hu hn hv hm hw hq hR hZ t1 t2 t3 t4
  go_enter Try.func3, Try.ntmps3
  go_wp2_with fail
  refine wp_region_held_drew (S := fun W => ((W.cell? ⟨p4, 0, none⟩ = some (.int .i64 r) ∧ W.cell? ⟨p4, 1, none⟩ = some (.int .i64 c) ∧ W.cell? ⟨p4, 2, none⟩ = some (.slice sm m km)) ∧ (W.cell? ⟨p5, 0, none⟩ = some (.slice wh q wk) ∧ W.cell? ⟨p5, 1, none⟩ = some (.int .u64 R) ∧ W.cell? ⟨p5, 2, none⟩ = some (.int .u64 Z))) ∧ Hid (Below w.heap.size w W ∧ W.heap[p4]? = some (B6Box r c sm m km) ∧ W.heap[p5]? = some (R6Box wh q wk R Z))) (by kernel_rfl) (HKS.out _ q0) (fun hHeld => ?_)
  refine take_at 0 18 (.slice sx n kx) rfl rfl (by kernel_rfl) (by kernel_rfl) (by kernel_rfl) (fun _ _ _ h => h) (Or.inl ⟨by rfl, fun w hSw => by (try dsimp only at hSw); go_simp⟩) (by assumption) ?_
  simp only [Act.put, List.setIfInBounds_toArray, List.set_cons_zero, List.set_cons_succ]
  refine take_at 1 19 (.agg #[.int .i64 r, .int .i64 c, .slice sm m km]) rfl rfl (by kernel_rfl) (by kernel_rfl) (by kernel_rfl) (fun _ _ _ h => h) (Or.inl ⟨by rfl, fun w hSw => by (try dsimp only at hSw); go_simp⟩) (by assumption) ?_
  simp only [Act.put, List.setIfInBounds_toArray, List.set_cons_zero, List.set_cons_succ]
  refine take_at 3 21 (.pointer (some ⟨p5, 0, none⟩)) rfl rfl (by kernel_rfl) (by kernel_rfl) (by kernel_rfl) (fun _ _ _ h => h) (Or.inl ⟨by rfl, fun w hSw => by (try dsimp only at hSw); go_simp⟩) (by assumption) ?_
  simp only [Act.put, List.setIfInBounds_toArray, List.set_cons_zero, List.set_cons_succ]
  refine take_at 4 22 (.slice wh q wk) rfl rfl (by kernel_rfl) (by kernel_rfl) (by kernel_rfl) (fun _ _ _ h => h) (Or.inl ⟨by rfl, fun w hSw => by (try dsimp only at hSw); go_simp⟩) (by assumption) ?_
  simp only [Act.put, List.setIfInBounds_toArray, List.set_cons_zero, List.set_cons_succ]
  refine take_at 6 24 (.pointer (some ⟨p5, 1, none⟩)) rfl rfl (by kernel_rfl) (by kernel_rfl) (by kernel_rfl) (fun _ _ _ h => h) (Or.inl ⟨by rfl, fun w hSw => by (try dsimp only at hSw); go_simp⟩) (by assumption) ?_
  simp only [Act.put, List.setIfInBounds_toArray, List.set_cons_zero, List.set_cons_succ]
  refine take_at 7 25 (.int .u64 R) rfl rfl (by kernel_rfl) (by kernel_rfl) (by kernel_rfl) (fun _ _ _ h => h) (Or.inl ⟨by rfl, fun w hSw => by (try dsimp only at hSw); go_simp⟩) (by assumption) ?_
  simp only [Act.put, List.setIfInBounds_toArray, List.set_cons_zero, List.set_cons_succ]
  refine wpAnyH_ready (rs := [2]) (by kernel_rfl) (by simp) ?_
  refine AllReadyH.cons (o := _) rfl (fun K hK => ?_) AllReadyH.nil
  go_simp
  refine (HOF.out _ q0.out.1).mono ?_
  rintro e u1 ⟨⟨ta, ca, tb, cb, rfl, hf1, hf2⟩, hb⟩
  have q1 : Hid (Below w.heap.size w u1 ∧ u1.heap[p4]? = some (B6Box r c sm m km) ∧ u1.heap[p5]? = some (R6Box wh q wk R Z)) := ⟨q0.out.1.trans (hb.mono q0.out.1.size), blkM q0.out.2.1 hb, blkM q0.out.2.2 hb⟩
  have HX1 := hid hf1
  have HM1 := hid hf2
  clear hb hf1 hf2
  go_wp2_with fail
  refine hK.out _ _ (HKS.out _ q1) (fun hHeld1 => ?_)
  clear hK K
  try simp only [Act.put, List.setIfInBounds_toArray, List.set_cons_zero, List.set_cons_succ]
  refine wpAnyH_ready (rs := [5]) (by kernel_rfl) (by simp) ?_
  refine AllReadyH.cons (o := _) rfl (fun K hK => ?_) AllReadyH.nil
  go_simp
  refine (HL2.out _ q1.out.1).mono ?_
  rintro e u2 ⟨⟨th, ch, rfl, hh⟩, hb⟩
  have q2 : Hid (Below w.heap.size w u2 ∧ u2.heap[p4]? = some (B6Box r c sm m km) ∧ u2.heap[p5]? = some (R6Box wh q wk R Z)) := ⟨q1.out.1.trans (hb.mono q1.out.1.size), blkM q1.out.2.1 hb, blkM q1.out.2.2 hb⟩
  have HX2 := hid (HX1.out.below hb)
  have HM2 := hid (HM1.out.below hb)
  have HH2 := hid hh
  clear hb hh HX1 HM1
  go_wp2_with fail
  refine hK.out _ _ (HKS.out _ q2) (fun hHeld2 => ?_)
  clear hK K
  try simp only [Act.put, List.setIfInBounds_toArray, List.set_cons_zero, List.set_cons_succ]
  refine wpAnyH_ready (rs := [8]) (by kernel_rfl) (by simp) ?_
  refine AllReadyH.cons (o := _) rfl (fun K hK => ?_) AllReadyH.nil
  go_simp
  refine (HFR.out _).mono ?_
  rintro e ww ⟨rfl, hw⟩
  rw [hw]
  clear hw
  go_wp2_with fail
  refine hK.out _ _ (HKS.out _ q2) (fun hHeld3 => ?_)
  clear hK K
  try simp only [Act.put, List.setIfInBounds_toArray, List.set_cons_zero, List.set_cons_succ]
  refine wpAnyH_ready (rs := [9]) (by kernel_rfl) (by simp) ?_
  refine AllReadyH.cons (o := _) rfl (fun K hK => ?_) AllReadyH.nil
  go_simp
  refine (HFO.out _ _ _ _ _ _ _ HX2.out HM2.out HH2.out).mono ?_
  rintro e u3 ⟨rfl, hb⟩
  have q3 : Hid (Below w.heap.size w u3 ∧ u3.heap[p4]? = some (B6Box r c sm m km) ∧ u3.heap[p5]? = some (R6Box wh q wk R Z)) := ⟨q2.out.1.trans (hb.mono q2.out.1.size), blkM q2.out.2.1 hb, blkM q2.out.2.2 hb⟩
  clear hb HX2 HM2 HH2
  go_wp2_with fail
  refine hK.out _ _ (HKS.out _ q3) (fun hHeld4 => ?_)
  clear hK K
  try simp only [Act.put, List.setIfInBounds_toArray, List.set_cons_zero, List.set_cons_succ]
  refine take_at 10 17 (.tuple #[.float .f64 P1, .float .f64 Q1, .int .i64 EF]) rfl rfl (by kernel_rfl) (by kernel_rfl) (by kernel_rfl) (fun _ _ _ h => h) (Or.inl ⟨by rfl, fun w hSw => by (try dsimp only at hSw); go_simp⟩) (by assumption) ?_
  simp only [Act.put, List.setIfInBounds_toArray, List.set_cons_zero, List.set_cons_succ]
  refine take_at 11 28 (.float .f64 P1) rfl rfl (by kernel_rfl) (by kernel_rfl) (by kernel_rfl) (fun _ _ _ h => h) (Or.inl ⟨by rfl, fun w hSw => by (try dsimp only at hSw); go_simp⟩) (by assumption) ?_
  simp only [Act.put, List.setIfInBounds_toArray, List.set_cons_zero, List.set_cons_succ]
  refine take_at 12 29 (.float .f64 Q1) rfl rfl (by kernel_rfl) (by kernel_rfl) (by kernel_rfl) (fun _ _ _ h => h) (Or.inl ⟨by rfl, fun w hSw => by (try dsimp only at hSw); go_simp⟩) (by assumption) ?_
  simp only [Act.put, List.setIfInBounds_toArray, List.set_cons_zero, List.set_cons_succ]
  refine take_at 13 30 (.int .i64 EF) rfl rfl (by kernel_rfl) (by kernel_rfl) (by kernel_rfl) (fun _ _ _ h => h) (Or.inl ⟨by rfl, fun w hSw => by (try dsimp only at hSw); go_simp⟩) (by assumption) ?_
  simp only [Act.put, List.setIfInBounds_toArray, List.set_cons_zero, List.set_cons_succ]
  refine take_at 14 7 (.float .f64 P1) rfl rfl (by kernel_rfl) (by kernel_rfl) (by kernel_rfl) (fun _ _ _ h => h) (Or.inl ⟨by rfl, fun w hSw => by (try dsimp only at hSw); go_simp⟩) (by assumption) ?_
  simp only [Act.put, List.setIfInBounds_toArray, List.set_cons_zero, List.set_cons_succ]
  refine take_at 15 8 (.float .f64 Q1) rfl rfl (by kernel_rfl) (by kernel_rfl) (by kernel_rfl) (fun _ _ _ h => h) (Or.inl ⟨by rfl, fun w hSw => by (try dsimp only at hSw); go_simp⟩) (by assumption) ?_
  simp only [Act.put, List.setIfInBounds_toArray, List.set_cons_zero, List.set_cons_succ]
  refine take_at 16 9 (.int .i64 EF) rfl rfl (by kernel_rfl) (by kernel_rfl) (by kernel_rfl) (fun _ _ _ h => h) (Or.inl ⟨by rfl, fun w hSw => by (try dsimp only at hSw); go_simp⟩) (by assumption) ?_
  simp only [Act.put, List.setIfInBounds_toArray, List.set_cons_zero, List.set_cons_succ]
  refine wpAnyH_done (by kernel_rfl) ?_ _
  clear hHeld hHeld1 hHeld2 hHeld3 hHeld4 q1 q2
  clear q0
  have q4 : Hid (Below w.heap.size w u3.drew ∧ u3.drew.heap[p4]? = some (B6Box r c sm m km) ∧ u3.drew.heap[p5]? = some (R6Box wh q wk R Z)) := ⟨q3.out.1.drew, q3.out.2⟩
  clear q3
  go_wp2_with fail
  refine wp_region_held_drew (S := fun W => ((W.cell? ⟨p4, 0, none⟩ = some (.int .i64 r) ∧ W.cell? ⟨p4, 1, none⟩ = some (.int .i64 c) ∧ W.cell? ⟨p4, 2, none⟩ = some (.slice sm m km)) ∧ (W.cell? ⟨p5, 0, none⟩ = some (.slice wh q wk) ∧ W.cell? ⟨p5, 1, none⟩ = some (.int .u64 R) ∧ W.cell? ⟨p5, 2, none⟩ = some (.int .u64 Z))) ∧ Hid (Below w.heap.size w W ∧ W.heap[p4]? = some (B6Box r c sm m km) ∧ W.heap[p5]? = some (R6Box wh q wk R Z))) (by kernel_rfl) (HKS.out _ q4) (fun hHeld => ?_)
  refine take_at 0 32 (.slice sx n kx) rfl rfl (by kernel_rfl) (by kernel_rfl) (by kernel_rfl) (fun _ _ _ h => h) (Or.inl ⟨by rfl, fun w hSw => by (try dsimp only at hSw); go_simp⟩) (by assumption) ?_
  simp only [Act.put, List.setIfInBounds_toArray, List.set_cons_zero, List.set_cons_succ]
  refine take_at 1 33 (.agg #[.int .i64 r, .int .i64 c, .slice sm m km]) rfl rfl (by kernel_rfl) (by kernel_rfl) (by kernel_rfl) (fun _ _ _ h => h) (Or.inl ⟨by rfl, fun w hSw => by (try dsimp only at hSw); go_simp⟩) (by assumption) ?_
  simp only [Act.put, List.setIfInBounds_toArray, List.set_cons_zero, List.set_cons_succ]
  refine take_at 3 35 (.pointer (some ⟨p5, 0, none⟩)) rfl rfl (by kernel_rfl) (by kernel_rfl) (by kernel_rfl) (fun _ _ _ h => h) (Or.inl ⟨by rfl, fun w hSw => by (try dsimp only at hSw); go_simp⟩) (by assumption) ?_
  simp only [Act.put, List.setIfInBounds_toArray, List.set_cons_zero, List.set_cons_succ]
  refine take_at 4 36 (.slice wh q wk) rfl rfl (by kernel_rfl) (by kernel_rfl) (by kernel_rfl) (fun _ _ _ h => h) (Or.inl ⟨by rfl, fun w hSw => by (try dsimp only at hSw); go_simp⟩) (by assumption) ?_
  simp only [Act.put, List.setIfInBounds_toArray, List.set_cons_zero, List.set_cons_succ]
  refine take_at 6 38 (.pointer (some ⟨p5, 1, none⟩)) rfl rfl (by kernel_rfl) (by kernel_rfl) (by kernel_rfl) (fun _ _ _ h => h) (Or.inl ⟨by rfl, fun w hSw => by (try dsimp only at hSw); go_simp⟩) (by assumption) ?_
  simp only [Act.put, List.setIfInBounds_toArray, List.set_cons_zero, List.set_cons_succ]
  refine take_at 7 39 (.int .u64 R) rfl rfl (by kernel_rfl) (by kernel_rfl) (by kernel_rfl) (fun _ _ _ h => h) (Or.inl ⟨by rfl, fun w hSw => by (try dsimp only at hSw); go_simp⟩) (by assumption) ?_
  simp only [Act.put, List.setIfInBounds_toArray, List.set_cons_zero, List.set_cons_succ]
  refine wpAnyH_ready (rs := [2]) (by kernel_rfl) (by simp) ?_
  refine AllReadyH.cons (o := _) rfl (fun K hK => ?_) AllReadyH.nil
  go_simp
  refine (HOF.out _ q4.out.1).mono ?_
  rintro e u4 ⟨⟨ta, ca, tb, cb, rfl, hf1, hf2⟩, hb⟩
  have q1 : Hid (Below w.heap.size w u4 ∧ u4.heap[p4]? = some (B6Box r c sm m km) ∧ u4.heap[p5]? = some (R6Box wh q wk R Z)) := ⟨q4.out.1.trans (hb.mono q4.out.1.size), blkM q4.out.2.1 hb, blkM q4.out.2.2 hb⟩
  have HX1 := hid hf1
  have HM1 := hid hf2
  clear hb hf1 hf2
  go_wp2_with fail
  refine hK.out _ _ (HKS.out _ q1) (fun hHeld1 => ?_)
  clear hK K
  try simp only [Act.put, List.setIfInBounds_toArray, List.set_cons_zero, List.set_cons_succ]
  refine wpAnyH_ready (rs := [5]) (by kernel_rfl) (by simp) ?_
  refine AllReadyH.cons (o := _) rfl (fun K hK => ?_) AllReadyH.nil
  go_simp
  refine (HL2.out _ q1.out.1).mono ?_
  rintro e u5 ⟨⟨th, ch, rfl, hh⟩, hb⟩
  have q2 : Hid (Below w.heap.size w u5 ∧ u5.heap[p4]? = some (B6Box r c sm m km) ∧ u5.heap[p5]? = some (R6Box wh q wk R Z)) := ⟨q1.out.1.trans (hb.mono q1.out.1.size), blkM q1.out.2.1 hb, blkM q1.out.2.2 hb⟩
  have HX2 := hid (HX1.out.below hb)
  have HM2 := hid (HM1.out.below hb)
  have HH2 := hid hh
  clear hb hh HX1 HM1
  go_wp2_with fail
  refine hK.out _ _ (HKS.out _ q2) (fun hHeld2 => ?_)
  clear hK K
  try simp only [Act.put, List.setIfInBounds_toArray, List.set_cons_zero, List.set_cons_succ]
  refine wpAnyH_ready (rs := [8]) (by kernel_rfl) (by simp) ?_
  refine AllReadyH.cons (o := _) rfl (fun K hK => ?_) AllReadyH.nil
  go_simp
  refine (HFR.out _).mono ?_
  rintro e ww ⟨rfl, hw⟩
  rw [hw]
  clear hw
  go_wp2_with fail
  refine hK.out _ _ (HKS.out _ q2) (fun hHeld3 => ?_)
  clear hK K
  try simp only [Act.put, List.setIfInBounds_toArray, List.set_cons_zero, List.set_cons_succ]
  refine wpAnyH_ready (rs := [9]) (by kernel_rfl) (by simp) ?_
  refine AllReadyH.cons (o := _) rfl (fun K hK => ?_) AllReadyH.nil
  go_simp
  refine (HFD.out _ _ _ _ _ _ _ HX2.out HM2.out HH2.out).mono ?_
  rintro e u6 ⟨⟨U, V2, rfl, ⟨hU, hV2⟩, hUc, hVc⟩, hb⟩
  have q3 : Hid (Below w.heap.size w u6 ∧ u6.heap[p4]? = some (B6Box r c sm m km) ∧ u6.heap[p5]? = some (R6Box wh q wk R Z)) := ⟨q2.out.1.trans (hb.mono q2.out.1.size), blkM q2.out.2.1 hb, blkM q2.out.2.2 hb⟩
  clear hb HX2 HM2 HH2
  go_wp2_with fail
  refine hK.out _ _ (HKS.out _ q3) (fun hHeld4 => ?_)
  clear hK K
  try simp only [Act.put, List.setIfInBounds_toArray, List.set_cons_zero, List.set_cons_succ]
  refine take_at 10 31 (.tuple #[.float .f64 U, .float .f64 V2, .int .i64 EF]) rfl rfl (by kernel_rfl) (by kernel_rfl) (by kernel_rfl) (fun _ _ _ h => h) (Or.inl ⟨by rfl, fun w hSw => by (try dsimp only at hSw); go_simp⟩) (by assumption) ?_
  simp only [Act.put, List.setIfInBounds_toArray, List.set_cons_zero, List.set_cons_succ]
  refine take_at 11 42 (.float .f64 U) rfl rfl (by kernel_rfl) (by kernel_rfl) (by kernel_rfl) (fun _ _ _ h => h) (Or.inl ⟨by rfl, fun w hSw => by (try dsimp only at hSw); go_simp⟩) (by assumption) ?_
  simp only [Act.put, List.setIfInBounds_toArray, List.set_cons_zero, List.set_cons_succ]
  refine take_at 12 43 (.float .f64 V2) rfl rfl (by kernel_rfl) (by kernel_rfl) (by kernel_rfl) (fun _ _ _ h => h) (Or.inl ⟨by rfl, fun w hSw => by (try dsimp only at hSw); go_simp⟩) (by assumption) ?_
  simp only [Act.put, List.setIfInBounds_toArray, List.set_cons_zero, List.set_cons_succ]
  refine take_at 13 44 (.int .i64 EF) rfl rfl (by kernel_rfl) (by kernel_rfl) (by kernel_rfl) (fun _ _ _ h => h) (Or.inl ⟨by rfl, fun w hSw => by (try dsimp only at hSw); go_simp⟩) (by assumption) ?_
  simp only [Act.put, List.setIfInBounds_toArray, List.set_cons_zero, List.set_cons_succ]
  refine take_at 14 10 (.float .f64 U) rfl rfl (by kernel_rfl) (by kernel_rfl) (by kernel_rfl) (fun _ _ _ h => h) (Or.inl ⟨by rfl, fun w hSw => by (try dsimp only at hSw); go_simp⟩) (by assumption) ?_
  simp only [Act.put, List.setIfInBounds_toArray, List.set_cons_zero, List.set_cons_succ]
  refine take_at 15 11 (.float .f64 V2) rfl rfl (by kernel_rfl) (by kernel_rfl) (by kernel_rfl) (fun _ _ _ h => h) (Or.inl ⟨by rfl, fun w hSw => by (try dsimp only at hSw); go_simp⟩) (by assumption) ?_
  simp only [Act.put, List.setIfInBounds_toArray, List.set_cons_zero, List.set_cons_succ]
  refine take_at 16 12 (.int .i64 EF) rfl rfl (by kernel_rfl) (by kernel_rfl) (by kernel_rfl) (fun _ _ _ h => h) (Or.inl ⟨by rfl, fun w hSw => by (try dsimp only at hSw); go_simp⟩) (by assumption) ?_
  simp only [Act.put, List.setIfInBounds_toArray, List.set_cons_zero, List.set_cons_succ]
  refine wpAnyH_done (by kernel_rfl) ?_ _
  clear hHeld hHeld1 hHeld2 hHeld3 hHeld4 q1 q2
  clear q4
  have HS1 := hid (fun W => same16_any P1 U W hU)
  have HS2 := hid (fun W => same16_any Q1 V2 W hV2)
  rw [hUc, show (P1 == P1) = true by simp] at HS1
  rw [hVc, show (Q1 == Q1) = true by simp] at HS2
  have hne : (EF != EF) = false := by simp
  clear hU hV2 hUc hVc
  go_wp2_with fail
  refine (HS1.out _).mono ?_
  rintro e ww ⟨rfl, hw⟩
  rw [hw]
  clear hw
  go_wp2_with fail
  refine (HS2.out _).mono ?_
  rintro e ww ⟨rfl, hw⟩
  rw [hw]
  clear hw
  go_wp2_with fail
  refine (HAW.out u6).mono ?_
  rintro e u7 ⟨rfl, hb⟩
  have q7 : Hid (Below w.heap.size w u7 ∧ u7.heap[p4]? = some (B6Box r c sm m km) ∧ u7.heap[p5]? = some (R6Box wh q wk R Z)) := ⟨q3.out.1.trans (hb.mono q3.out.1.size), blkM q3.out.2.1 hb, blkM q3.out.2.2 hb⟩
  clear hb q3 HS1 HS2 HFO HFD HFR HAW
  have HOF5 := hid (fun W (hW : Below u7.heap.size u7 W) => HOF.out W (q7.out.1.trans (hW.mono q7.out.1.size)))
  have HL5 := hid (fun W (hW : Below u7.heap.size u7 W) => HL2.out W (q7.out.1.trans (hW.mono q7.out.1.size)))
  have HKT : Hid (∀ W, Below u7.heap.size u7 W → (W.cell? ⟨p4, 0, none⟩ = some (.int .i64 r) ∧ W.cell? ⟨p4, 1, none⟩ = some (.int .i64 c) ∧ W.cell? ⟨p4, 2, none⟩ = some (.slice sm m km)) ∧ (W.cell? ⟨p5, 0, none⟩ = some (.slice wh q wk) ∧ W.cell? ⟨p5, 1, none⟩ = some (.int .u64 R) ∧ W.cell? ⟨p5, 2, none⟩ = some (.int .u64 Z))) := fun W hW => ⟨b6cells_of (blkM q7.out.2.1 hW), r6cells_of (blkM q7.out.2.2 hW)⟩
  have HQ0 : Hid (FrQ u7 u7.drew [] []) := (FrQ.start u7).drew
  go_wp2_with fail
  refine region_merge2 (fun a0 a' w' => ∃ (ta : Option Addr) (ca : Nat) (tb : Option Addr) (cb : Nat) (th : Option Addr) (ch : Nat) (t13 t14 : Nat) (uxu : Option Addr) (k1u k2u : Nat) (r1u c1u : Int) (ulu : Option Addr) (k3u k4u Yu Au S1u : Nat) (ugu : Option Addr) (k5u k6u : Nat), a' = Act.put (Act.put (Act.put (Act.put (Act.put (Act.put (Act.put (Act.put (Act.put (Act.put (Act.put (Act.put (Act.put (Act.put (Act.put (Act.put (Act.put (Act.put (Act.put (Act.put (a0) (some 65) (.slice sx n kx)) (some 66) (.agg #[.int .i64 r, .int .i64 c, .slice sm m km])) (some 68) (.pointer (some ⟨p5, 0, none⟩))) (some 69) (.slice wh q wk)) (some 71) (.pointer (some ⟨p5, 1, none⟩))) (some 72) (.int .u64 R)) (some 74) (.pointer (some ⟨p5, 2, none⟩))) (some 75) (.int .u64 Z)) (some 67) (.agg #[.slice ta n ca, .int .i64 r, .int .i64 c, .slice tb m cb])) (some 70) (.slice th q ch)) (some 73) (.float .f64 R)) (some 76) (.float .f64 Z)) (some 77) (.tuple #[.agg #[.slice uxu k1u k2u, .int .i64 r1u, .int .i64 c1u, .slice ulu k3u k4u], .agg #[.float .f64 Yu, .float .f64 Au, .float .f64 S1u, .slice ugu k5u k6u], .int .i64 EE])) (some 64) (.tuple #[.agg #[.slice uxu k1u k2u, .int .i64 r1u, .int .i64 c1u, .slice ulu k3u k4u], .agg #[.float .f64 Yu, .float .f64 Au, .float .f64 S1u, .slice ugu k5u k6u], .int .i64 EE])) (some 78) (.agg #[.slice uxu k1u k2u, .int .i64 r1u, .int .i64 c1u, .slice ulu k3u k4u])) (some 79) (.agg #[.float .f64 Yu, .float .f64 Au, .float .f64 S1u, .slice ugu k5u k6u])) (some 80) (.int .i64 EE)) (some 13) (.pointer (some ⟨t13, 0, none⟩))) (some 14) (.pointer (some ⟨t14, 0, none⟩))) (some 9) (.int .i64 EE) ∧ Below u7.heap.size u7 w' ∧ w'.heap[t13]? = some (RBox uxu k1u k2u r1u c1u ulu k3u k4u) ∧ w'.heap[t14]? = some (StBox Yu Au S1u ugu k5u k6u) ∧ UpK EE f hs zs n R Z w' uxu k1u k2u r1u c1u ulu k3u k4u Yu Au S1u ugu k5u k6u) (fun HR => ?_) ?_
  · as_aux_lemma =>
      simp only [Act.put, List.setIfInBounds_toArray, List.set_cons_zero, List.set_cons_succ] at HR
      refine wp_region_held_drew (S := fun W => (W.cell? ⟨p4, 0, none⟩ = some (.int .i64 r) ∧ W.cell? ⟨p4, 1, none⟩ = some (.int .i64 c) ∧ W.cell? ⟨p4, 2, none⟩ = some (.slice sm m km)) ∧ (W.cell? ⟨p5, 0, none⟩ = some (.slice wh q wk) ∧ W.cell? ⟨p5, 1, none⟩ = some (.int .u64 R) ∧ W.cell? ⟨p5, 2, none⟩ = some (.int .u64 Z))) (by kernel_rfl) (HKT.out _ HQ0.out.bel) (fun hHeld => ?_)
      refine take_at 0 65 (.slice sx n kx) rfl rfl (by kernel_rfl) (by kernel_rfl) (by kernel_rfl) (fun _ _ _ h => h) (Or.inl ⟨by rfl, fun w hSw => by (try dsimp only at hSw); go_simp⟩) (by assumption) ?_
      simp only [Act.put, List.setIfInBounds_toArray, List.set_cons_zero, List.set_cons_succ]
      refine take_at 1 66 (.agg #[.int .i64 r, .int .i64 c, .slice sm m km]) rfl rfl (by kernel_rfl) (by kernel_rfl) (by kernel_rfl) (fun _ _ _ h => h) (Or.inl ⟨by rfl, fun w hSw => by (try dsimp only at hSw); go_simp⟩) (by assumption) ?_
      simp only [Act.put, List.setIfInBounds_toArray, List.set_cons_zero, List.set_cons_succ]
      refine take_at 3 68 (.pointer (some ⟨p5, 0, none⟩)) rfl rfl (by kernel_rfl) (by kernel_rfl) (by kernel_rfl) (fun _ _ _ h => h) (Or.inl ⟨by rfl, fun w hSw => by (try dsimp only at hSw); go_simp⟩) (by assumption) ?_
      simp only [Act.put, List.setIfInBounds_toArray, List.set_cons_zero, List.set_cons_succ]
      refine take_at 4 69 (.slice wh q wk) rfl rfl (by kernel_rfl) (by kernel_rfl) (by kernel_rfl) (fun _ _ _ h => h) (Or.inl ⟨by rfl, fun w hSw => by (try dsimp only at hSw); go_simp⟩) (by assumption) ?_
      simp only [Act.put, List.setIfInBounds_toArray, List.set_cons_zero, List.set_cons_succ]
      refine take_at 6 71 (.pointer (some ⟨p5, 1, none⟩)) rfl rfl (by kernel_rfl) (by kernel_rfl) (by kernel_rfl) (fun _ _ _ h => h) (Or.inl ⟨by rfl, fun w hSw => by (try dsimp only at hSw); go_simp⟩) (by assumption) ?_
      simp only [Act.put, List.setIfInBounds_toArray, List.set_cons_zero, List.set_cons_succ]
      refine take_at 7 72 (.int .u64 R) rfl rfl (by kernel_rfl) (by kernel_rfl) (by kernel_rfl) (fun _ _ _ h => h) (Or.inl ⟨by rfl, fun w hSw => by (try dsimp only at hSw); go_simp⟩) (by assumption) ?_
      simp only [Act.put, List.setIfInBounds_toArray, List.set_cons_zero, List.set_cons_succ]
      refine take_at 9 74 (.pointer (some ⟨p5, 2, none⟩)) rfl rfl (by kernel_rfl) (by kernel_rfl) (by kernel_rfl) (fun _ _ _ h => h) (Or.inl ⟨by rfl, fun w hSw => by (try dsimp only at hSw); go_simp⟩) (by assumption) ?_
      simp only [Act.put, List.setIfInBounds_toArray, List.set_cons_zero, List.set_cons_succ]
      refine take_at 10 75 (.int .u64 Z) rfl rfl (by kernel_rfl) (by kernel_rfl) (by kernel_rfl) (fun _ _ _ h => h) (Or.inl ⟨by rfl, fun w hSw => by (try dsimp only at hSw); go_simp⟩) (by assumption) ?_
      simp only [Act.put, List.setIfInBounds_toArray, List.set_cons_zero, List.set_cons_succ]
      refine dag_open (fun G A0 hG hA => ?_)
      have HS5ab : Hid (∀ (W : World) (ta : Option Addr) (ca : Nat) (tb : Option Addr) (cb : Nat) (th : Option Addr) (ch : Nat) (uxu : Option Addr) (k1u k2u : Nat) (r1u c1u : Int) (ulu : Option Addr) (k3u k4u Yu Au S1u : Nat) (ugu : Option Addr) (k5u k6u : Nat) (t13 t14 : Nat), Hid (FrQ u7 W [(t14, StBox 0 0 0 none 0 0), (t13, RBox none 0 0 0 0 none 0 0)] [fun _ => DjT uxu ulu ugu t14, fun _ => DjT uxu ulu ugu t13, fun W => UpK EE f hs zs n R Z W uxu k1u k2u r1u c1u ulu k3u k4u Yu Au S1u ugu k5u k6u, fun W => FlM W th q ch hs, fun W => FlM W tb m cb xs, fun W => FlM W ta n ca zs]) → G 3 #[true, true, true, true, true, true, true, true, true, true, true, true, true, true, true, true, true, true, true, false, false, false] (Act.put (Act.put (Act.put (Act.put (Act.put (Act.put (Act.put (Act.put (Act.put (Act.put (Act.put (A0) (some 67) (.agg #[.slice ta n ca, .int .i64 r, .int .i64 c, .slice tb m cb])) (some 70) (.slice th q ch)) (some 73) (.float .f64 R)) (some 76) (.float .f64 Z)) (some 77) (.tuple #[.agg #[.slice uxu k1u k2u, .int .i64 r1u, .int .i64 c1u, .slice ulu k3u k4u], .agg #[.float .f64 Yu, .float .f64 Au, .float .f64 S1u, .slice ugu k5u k6u], .int .i64 EE])) (some 64) (.tuple #[.agg #[.slice uxu k1u k2u, .int .i64 r1u, .int .i64 c1u, .slice ulu k3u k4u], .agg #[.float .f64 Yu, .float .f64 Au, .float .f64 S1u, .slice ugu k5u k6u], .int .i64 EE])) (some 78) (.agg #[.slice uxu k1u k2u, .int .i64 r1u, .int .i64 c1u, .slice ulu k3u k4u])) (some 79) (.agg #[.float .f64 Yu, .float .f64 Au, .float .f64 S1u, .slice ugu k5u k6u])) (some 80) (.int .i64 EE)) (some 13) (.pointer (some ⟨t13, 0, none⟩))) (some 14) (.pointer (some ⟨t14, 0, none⟩))) W) := fun W ta ca tb cb th ch uxu k1u k2u r1u c1u ulu k3u k4u Yu Au S1u ugu k5u k6u t13 t14 HQ => by
        rw [hG.out, hA.out]
        simp only [Act.put, List.setIfInBounds_toArray, List.set_cons_zero, List.set_cons_succ]
        have hB := HQ.out.get (g := fun W => UpK EE f hs zs n R Z W uxu k1u k2u r1u c1u ulu k3u k4u Yu Au S1u ugu k5u k6u) 2 rfl
        have hT := HQ.out.get (g := fun _ => DjT uxu ulu ugu t13) 1 rfl
        have hU := HQ.out.get (g := fun _ => DjT uxu ulu ugu t14) 0 rfl
        have z0 : W.heap[t14]? = some (StBox 0 0 0 none 0 0) := HQ.out.at 0 rfl
        have z1 : W.heap[t13]? = some (RBox none 0 0 0 0 none 0 0) := HQ.out.at 1 rfl
        have zb0 := (HQ.out.box (t14, StBox 0 0 0 none 0 0) (by simp)).2
        have zb1 := (HQ.out.box (t13, RBox none 0 0 0 0 none 0 0) (by simp)).2
        have hne : t13 ≠ t14 := by have hn := HQ.out.nod; simp only [List.map_cons, List.map_nil, List.nodup_cons, List.mem_cons, List.not_mem_nil, or_false, not_false_iff, List.nodup_nil, and_true] at hn; omega
        obtain ⟨c0, c1x, c2, c3⟩ := rcells_of z1
        have fz1 := rfrz z1
        have hbW := HQ.out.bel
        have b1 : Below u7.heap.size u7 ((((W.setCell ⟨t13, 0, none⟩ (.slice uxu k1u k2u)).setCell ⟨t13, 1, none⟩ (.int .i64 r1u)).setCell ⟨t13, 2, none⟩ (.int .i64 c1u)).setCell ⟨t13, 3, none⟩ (.slice ulu k3u k4u)) := rsto_below hbW zb1 _ _ _ _
        have y1 : ((((W.setCell ⟨t13, 0, none⟩ (.slice uxu k1u k2u)).setCell ⟨t13, 1, none⟩ (.int .i64 r1u)).setCell ⟨t13, 2, none⟩ (.int .i64 c1u)).setCell ⟨t13, 3, none⟩ (.slice ulu k3u k4u)).heap[t13]? = some (RBox uxu k1u k2u r1u c1u ulu k3u k4u) := set4 z1
        have y0 : ((((W.setCell ⟨t13, 0, none⟩ (.slice uxu k1u k2u)).setCell ⟨t13, 1, none⟩ (.int .i64 r1u)).setCell ⟨t13, 2, none⟩ (.int .i64 c1u)).setCell ⟨t13, 3, none⟩ (.slice ulu k3u k4u)).heap[t14]? = some (StBox 0 0 0 none 0 0) := by rw [set_keepM hne.symm, set_keepM hne.symm, set_keepM hne.symm, set_keepM hne.symm]; exact z0
        have hB1 := hB.sto hT (.slice uxu k1u k2u) (.int .i64 r1u) (.int .i64 c1u) (.slice ulu k3u k4u)
        refine wpAnyH_ready (rs := [19]) (by kernel_rfl) (by simp) ?_
        refine AllReadyH.cons (o := _) rfl (fun K hK => ?_) AllReadyH.nil
        go_simp
        go_wp2_with fail
        refine hK.out _ _ (HKT.out _ b1) (fun hHeld1 => ?_)
        clear hK K
        try simp only [List.setIfInBounds_toArray, List.set_cons_zero, List.set_cons_succ]
        obtain ⟨W1, hW1⟩ : ∃ t, Hid (((((W.setCell ⟨t13, 0, none⟩ (.slice uxu k1u k2u)).setCell ⟨t13, 1, none⟩ (.int .i64 r1u)).setCell ⟨t13, 2, none⟩ (.int .i64 c1u)).setCell ⟨t13, 3, none⟩ (.slice ulu k3u k4u)) = t) := ⟨_, rfl⟩
        rw [hW1.out] at b1 y1 y0 hB1
        try rw [hW1.out]
        obtain ⟨d0, d1, d2, d3⟩ := scells_of y0
        have fz2 := sfrz y0
        have b2 : Below u7.heap.size u7 ((((W1.setCell ⟨t14, 0, none⟩ (.float .f64 Yu)).setCell ⟨t14, 1, none⟩ (.float .f64 Au)).setCell ⟨t14, 2, none⟩ (.float .f64 S1u)).setCell ⟨t14, 3, none⟩ (.slice ugu k5u k6u)) := ssto_below b1 zb0 _ _ _ _
        have v0 : ((((W1.setCell ⟨t14, 0, none⟩ (.float .f64 Yu)).setCell ⟨t14, 1, none⟩ (.float .f64 Au)).setCell ⟨t14, 2, none⟩ (.float .f64 S1u)).setCell ⟨t14, 3, none⟩ (.slice ugu k5u k6u)).heap[t14]? = some (StBox Yu Au S1u ugu k5u k6u) := set4 y0
        have v1 : ((((W1.setCell ⟨t14, 0, none⟩ (.float .f64 Yu)).setCell ⟨t14, 1, none⟩ (.float .f64 Au)).setCell ⟨t14, 2, none⟩ (.float .f64 S1u)).setCell ⟨t14, 3, none⟩ (.slice ugu k5u k6u)).heap[t13]? = some (RBox uxu k1u k2u r1u c1u ulu k3u k4u) := by rw [set_keepM hne, set_keepM hne, set_keepM hne, set_keepM hne]; exact y1
        have hB2 := hB1.sto hU (.float .f64 Yu) (.float .f64 Au) (.float .f64 S1u) (.slice ugu k5u k6u)
        clear c0 c1x c2 c3 fz1
        have hst := fstoreR
        refine wpAnyH_ready (rs := [20]) (by kernel_rfl) (by simp) ?_
        refine AllReadyH.cons (o := _) rfl (fun K hK => ?_) AllReadyH.nil
        go_simp
        go_wp2_with fail
        refine hK.out _ _ (HKT.out _ b2) (fun hHeld2 => ?_)
        clear hK K hst
        try simp only [List.setIfInBounds_toArray, List.set_cons_zero, List.set_cons_succ]
        refine take_at 21 9 (.int .i64 EE) rfl rfl (by kernel_rfl) (by kernel_rfl) (by kernel_rfl) (fun _ _ _ h => h) (Or.inl ⟨by rfl, fun w hSw => by (try dsimp only at hSw); go_simp⟩) (by assumption) ?_
        simp only [Act.put, List.setIfInBounds_toArray, List.set_cons_zero, List.set_cons_succ]
        refine wpAnyH_done (by kernel_rfl) ?_ _
        exact HR.out _ _ ⟨ta, ca, tb, cb, th, ch, t13, t14, uxu, k1u, k2u, r1u, c1u, ulu, k3u, k4u, Yu, Au, S1u, ugu, k5u, k6u, rfl, b2, v1, v0, hB2⟩
      have HS5a : Hid (∀ (W : World) (ta : Option Addr) (ca : Nat) (tb : Option Addr) (cb : Nat) (th : Option Addr) (ch : Nat) (uxu : Option Addr) (k1u k2u : Nat) (r1u c1u : Int) (ulu : Option Addr) (k3u k4u Yu Au S1u : Nat) (ugu : Option Addr) (k5u k6u : Nat) (t13 : Nat), Hid (FrQ u7 W [(t13, RBox none 0 0 0 0 none 0 0)] [fun _ => DjT uxu ulu ugu t13, fun W => UpK EE f hs zs n R Z W uxu k1u k2u r1u c1u ulu k3u k4u Yu Au S1u ugu k5u k6u, fun W => FlM W th q ch hs, fun W => FlM W tb m cb xs, fun W => FlM W ta n ca zs]) → G 4 #[true, true, true, true, true, true, true, true, true, true, true, true, true, true, true, true, true, true, false, false, false, false] (Act.put (Act.put (Act.put (Act.put (Act.put (Act.put (Act.put (Act.put (Act.put (Act.put (A0) (some 67) (.agg #[.slice ta n ca, .int .i64 r, .int .i64 c, .slice tb m cb])) (some 70) (.slice th q ch)) (some 73) (.float .f64 R)) (some 76) (.float .f64 Z)) (some 77) (.tuple #[.agg #[.slice uxu k1u k2u, .int .i64 r1u, .int .i64 c1u, .slice ulu k3u k4u], .agg #[.float .f64 Yu, .float .f64 Au, .float .f64 S1u, .slice ugu k5u k6u], .int .i64 EE])) (some 64) (.tuple #[.agg #[.slice uxu k1u k2u, .int .i64 r1u, .int .i64 c1u, .slice ulu k3u k4u], .agg #[.float .f64 Yu, .float .f64 Au, .float .f64 S1u, .slice ugu k5u k6u], .int .i64 EE])) (some 78) (.agg #[.slice uxu k1u k2u, .int .i64 r1u, .int .i64 c1u, .slice ulu k3u k4u])) (some 79) (.agg #[.float .f64 Yu, .float .f64 Au, .float .f64 S1u, .slice ugu k5u k6u])) (some 80) (.int .i64 EE)) (some 13) (.pointer (some ⟨t13, 0, none⟩))) W) := fun W ta ca tb cb th ch uxu k1u k2u r1u c1u ulu k3u k4u Yu Au S1u ugu k5u k6u t13 HQ => by
        rw [hG.out, hA.out]
        simp only [Act.put, List.setIfInBounds_toArray, List.set_cons_zero, List.set_cons_succ]
        refine wpAnyH_ready (rs := [18]) (by kernel_rfl) (by simp) ?_
        refine AllReadyH.cons (o := _) rfl (fun K hK => ?_) AllReadyH.nil
        have hold := UpK.old (HQ.out.get (g := fun W => UpK EE f hs zs n R Z W uxu k1u k2u r1u c1u ulu k3u k4u Yu Au S1u ugu k5u k6u) 1 rfl)
        go_simp
        go_wp2_with fail
        have HQ := hid (HQ.out.alloc (StBox 0 0 0 none 0 0))
        refine hK.out _ _ (HKT.out _ HQ.out.bel) (fun hHeld => ?_)
        clear hK K
        try simp only [List.setIfInBounds_toArray, List.set_cons_zero, List.set_cons_succ]
        obtain ⟨X, hX, HQ⟩ := frq_name HQ.out
        obtain ⟨t14, ht14, HQ⟩ := frq_head HQ.out
        have hy := hX.out
        unfold StBox at hy
        have hz := ht14.out
        rw [hy, hz]
        clear hy
        have HQ := hid (HQ.out.add (g := fun _ => DjT uxu ulu ugu t14) (kept_djt _ _ _ _) (djt_old hold hz))
        clear hz
        have HQ : Hid (FrQ u7 X [(t14, StBox 0 0 0 none 0 0), (t13, RBox none 0 0 0 0 none 0 0)] [fun _ => DjT uxu ulu ugu t14, fun _ => DjT uxu ulu ugu t13, fun W => UpK EE f hs zs n R Z W uxu k1u k2u r1u c1u ulu k3u k4u Yu Au S1u ugu k5u k6u, fun W => FlM W th q ch hs, fun W => FlM W tb m cb xs, fun W => FlM W ta n ca zs]) := frq_perm HQ.out (by simp) (by have hn := HQ.out.nod; simp only [List.map_cons, List.map_nil, List.nodup_cons, List.mem_cons, List.not_mem_nil, or_false, not_false_iff, List.nodup_nil, and_true] at hn ⊢; omega) (by simp)
        have hfin := HS5ab.out X ta ca tb cb th ch uxu k1u k2u r1u c1u ulu k3u k4u Yu Au S1u ugu k5u k6u t13 t14 HQ
        rw [hG.out, hA.out] at hfin
        simp only [Act.put, List.setIfInBounds_toArray, List.set_cons_zero, List.set_cons_succ] at hfin
        exact hfin
      have HS5b : Hid (∀ (W : World) (ta : Option Addr) (ca : Nat) (tb : Option Addr) (cb : Nat) (th : Option Addr) (ch : Nat) (uxu : Option Addr) (k1u k2u : Nat) (r1u c1u : Int) (ulu : Option Addr) (k3u k4u Yu Au S1u : Nat) (ugu : Option Addr) (k5u k6u : Nat) (t14 : Nat), Hid (FrQ u7 W [(t14, StBox 0 0 0 none 0 0)] [fun _ => DjT uxu ulu ugu t14, fun W => UpK EE f hs zs n R Z W uxu k1u k2u r1u c1u ulu k3u k4u Yu Au S1u ugu k5u k6u, fun W => FlM W th q ch hs, fun W => FlM W tb m cb xs, fun W => FlM W ta n ca zs]) → G 4 #[true, true, true, true, true, true, true, true, true, true, true, true, true, true, true, true, true, false, true, false, false, false] (Act.put (Act.put (Act.put (Act.put (Act.put (Act.put (Act.put (Act.put (Act.put (Act.put (A0) (some 67) (.agg #[.slice ta n ca, .int .i64 r, .int .i64 c, .slice tb m cb])) (some 70) (.slice th q ch)) (some 73) (.float .f64 R)) (some 76) (.float .f64 Z)) (some 77) (.tuple #[.agg #[.slice uxu k1u k2u, .int .i64 r1u, .int .i64 c1u, .slice ulu k3u k4u], .agg #[.float .f64 Yu, .float .f64 Au, .float .f64 S1u, .slice ugu k5u k6u], .int .i64 EE])) (some 64) (.tuple #[.agg #[.slice uxu k1u k2u, .int .i64 r1u, .int .i64 c1u, .slice ulu k3u k4u], .agg #[.float .f64 Yu, .float .f64 Au, .float .f64 S1u, .slice ugu k5u k6u], .int .i64 EE])) (some 78) (.agg #[.slice uxu k1u k2u, .int .i64 r1u, .int .i64 c1u, .slice ulu k3u k4u])) (some 79) (.agg #[.float .f64 Yu, .float .f64 Au, .float .f64 S1u, .slice ugu k5u k6u])) (some 80) (.int .i64 EE)) (some 14) (.pointer (some ⟨t14, 0, none⟩))) W) := fun W ta ca tb cb th ch uxu k1u k2u r1u c1u ulu k3u k4u Yu Au S1u ugu k5u k6u t14 HQ => by
        rw [hG.out, hA.out]
        simp only [Act.put, List.setIfInBounds_toArray, List.set_cons_zero, List.set_cons_succ]
        refine wpAnyH_ready (rs := [17]) (by kernel_rfl) (by simp) ?_
        refine AllReadyH.cons (o := _) rfl (fun K hK => ?_) AllReadyH.nil
        have hold := UpK.old (HQ.out.get (g := fun W => UpK EE f hs zs n R Z W uxu k1u k2u r1u c1u ulu k3u k4u Yu Au S1u ugu k5u k6u) 1 rfl)
        go_simp
        go_wp2_with fail
        have HQ := hid (HQ.out.alloc (RBox none 0 0 0 0 none 0 0))
        refine hK.out _ _ (HKT.out _ HQ.out.bel) (fun hHeld => ?_)
        clear hK K
        try simp only [List.setIfInBounds_toArray, List.set_cons_zero, List.set_cons_succ]
        obtain ⟨X, hX, HQ⟩ := frq_name HQ.out
        obtain ⟨t13, ht13, HQ⟩ := frq_head HQ.out
        have hy := hX.out
        unfold RBox at hy
        have hz := ht13.out
        rw [hy, hz]
        clear hy
        have HQ := hid (HQ.out.add (g := fun _ => DjT uxu ulu ugu t13) (kept_djt _ _ _ _) (djt_old hold hz))
        clear hz
        have HQ : Hid (FrQ u7 X [(t14, StBox 0 0 0 none 0 0), (t13, RBox none 0 0 0 0 none 0 0)] [fun _ => DjT uxu ulu ugu t14, fun _ => DjT uxu ulu ugu t13, fun W => UpK EE f hs zs n R Z W uxu k1u k2u r1u c1u ulu k3u k4u Yu Au S1u ugu k5u k6u, fun W => FlM W th q ch hs, fun W => FlM W tb m cb xs, fun W => FlM W ta n ca zs]) := frq_perm HQ.out (by simp) (by have hn := HQ.out.nod; simp only [List.map_cons, List.map_nil, List.nodup_cons, List.mem_cons, List.not_mem_nil, or_false, not_false_iff, List.nodup_nil, and_true] at hn ⊢; omega) (by simp)
        have hfin := HS5ab.out X ta ca tb cb th ch uxu k1u k2u r1u c1u ulu k3u k4u Yu Au S1u ugu k5u k6u t13 t14 HQ
        rw [hG.out, hA.out] at hfin
        simp only [Act.put, List.setIfInBounds_toArray, List.set_cons_zero, List.set_cons_succ] at hfin
        exact hfin
      have HS4ab : Hid (∀ (W : World) (ta : Option Addr) (ca : Nat) (tb : Option Addr) (cb : Nat) (th : Option Addr) (ch : Nat) (t13 t14 : Nat), Hid (FrQ u7 W [(t14, StBox 0 0 0 none 0 0), (t13, RBox none 0 0 0 0 none 0 0)] [fun W => FlM W th q ch hs, fun W => FlM W tb m cb xs, fun W => FlM W ta n ca zs]) → G 8 #[true, true, true, true, true, true, true, true, true, true, true, true, false, false, false, false, false, true, true, false, false, false] (Act.put (Act.put (Act.put (Act.put (Act.put (Act.put (A0) (some 67) (.agg #[.slice ta n ca, .int .i64 r, .int .i64 c, .slice tb m cb])) (some 70) (.slice th q ch)) (some 73) (.float .f64 R)) (some 76) (.float .f64 Z)) (some 13) (.pointer (some ⟨t13, 0, none⟩))) (some 14) (.pointer (some ⟨t14, 0, none⟩))) W) := fun W ta ca tb cb th ch t13 t14 HQ => by
        rw [hG.out, hA.out]
        simp only [Act.put, List.setIfInBounds_toArray, List.set_cons_zero, List.set_cons_succ]
        refine wpAnyH_ready (rs := [12]) (by kernel_rfl) (by simp) ?_
        refine AllReadyH.cons (o := _) rfl (fun K hK => ?_) AllReadyH.nil
        go_simp
        refine (HUP.out W ta ca tb cb th ch (HQ.out.get (g := fun W => FlM W ta n ca zs) 2 rfl) (HQ.out.get (g := fun W => FlM W tb m cb xs) 1 rfl) (HQ.out.get (g := fun W => FlM W th q ch hs) 0 rfl)).mono ?_
        rintro e X ⟨⟨uxu, k1u, k2u, r1u, c1u, ulu, k3u, k4u, Yu, Au, S1u, ugu, k5u, k6u, rfl, hup, hnew⟩, hb⟩
        have hdT : DjT uxu ulu ugu t13 := djt_new hnew (HQ.out.at 1 rfl)
        have hdU : DjT uxu ulu ugu t14 := djt_new hnew (HQ.out.at 0 rfl)
        have HQ := hid (HQ.out.call hb)
        have HQ := hid (HQ.out.add (g := fun W => UpK EE f hs zs n R Z W uxu k1u k2u r1u c1u ulu k3u k4u Yu Au S1u ugu k5u k6u) (kept_upk _ _ _ _ _ _ _ _ _ _ _ _ _ _ _ _ _ _ _ _ _) hup)
        have HQ := hid (HQ.out.add (g := fun _ => DjT uxu ulu ugu t13) (kept_djt _ _ _ _) hdT)
        have HQ := hid (HQ.out.add (g := fun _ => DjT uxu ulu ugu t14) (kept_djt _ _ _ _) hdU)
        clear hb
        go_wp2_with fail
        refine hK.out _ _ (HKT.out _ HQ.out.bel) (fun hHeld => ?_)
        clear hK K
        try simp only [List.setIfInBounds_toArray, List.set_cons_zero, List.set_cons_succ]
        refine take_at 13 64 (.tuple #[.agg #[.slice uxu k1u k2u, .int .i64 r1u, .int .i64 c1u, .slice ulu k3u k4u], .agg #[.float .f64 Yu, .float .f64 Au, .float .f64 S1u, .slice ugu k5u k6u], .int .i64 EE]) rfl rfl (by kernel_rfl) (by kernel_rfl) (by kernel_rfl) (fun _ _ _ h => h) (Or.inl ⟨by rfl, fun w hSw => by (try dsimp only at hSw); go_simp⟩) (by assumption) ?_
        simp only [Act.put, List.setIfInBounds_toArray, List.set_cons_zero, List.set_cons_succ]
        refine take_at 14 78 (.agg #[.slice uxu k1u k2u, .int .i64 r1u, .int .i64 c1u, .slice ulu k3u k4u]) rfl rfl (by kernel_rfl) (by kernel_rfl) (by kernel_rfl) (fun _ _ _ h => h) (Or.inl ⟨by rfl, fun w hSw => by (try dsimp only at hSw); go_simp⟩) (by assumption) ?_
        simp only [Act.put, List.setIfInBounds_toArray, List.set_cons_zero, List.set_cons_succ]
        refine take_at 15 79 (.agg #[.float .f64 Yu, .float .f64 Au, .float .f64 S1u, .slice ugu k5u k6u]) rfl rfl (by kernel_rfl) (by kernel_rfl) (by kernel_rfl) (fun _ _ _ h => h) (Or.inl ⟨by rfl, fun w hSw => by (try dsimp only at hSw); go_simp⟩) (by assumption) ?_
        simp only [Act.put, List.setIfInBounds_toArray, List.set_cons_zero, List.set_cons_succ]
        refine take_at 16 80 (.int .i64 EE) rfl rfl (by kernel_rfl) (by kernel_rfl) (by kernel_rfl) (fun _ _ _ h => h) (Or.inl ⟨by rfl, fun w hSw => by (try dsimp only at hSw); go_simp⟩) (by assumption) ?_
        simp only [Act.put, List.setIfInBounds_toArray, List.set_cons_zero, List.set_cons_succ]
        have hfin := HS5ab.out X ta ca tb cb th ch uxu k1u k2u r1u c1u ulu k3u k4u Yu Au S1u ugu k5u k6u t13 t14 HQ
        rw [hG.out, hA.out] at hfin
        simp only [Act.put, List.setIfInBounds_toArray, List.set_cons_zero, List.set_cons_succ] at hfin
        exact hfin
      clear HS5ab
      have HS5 : Hid (∀ (W : World) (ta : Option Addr) (ca : Nat) (tb : Option Addr) (cb : Nat) (th : Option Addr) (ch : Nat) (uxu : Option Addr) (k1u k2u : Nat) (r1u c1u : Int) (ulu : Option Addr) (k3u k4u Yu Au S1u : Nat) (ugu : Option Addr) (k5u k6u : Nat) , Hid (FrQ u7 W [] [fun W => UpK EE f hs zs n R Z W uxu k1u k2u r1u c1u ulu k3u k4u Yu Au S1u ugu k5u k6u, fun W => FlM W th q ch hs, fun W => FlM W tb m cb xs, fun W => FlM W ta n ca zs]) → G 5 #[true, true, true, true, true, true, true, true, true, true, true, true, true, true, true, true, true, false, false, false, false, false] (Act.put (Act.put (Act.put (Act.put (Act.put (Act.put (Act.put (Act.put (Act.put (A0) (some 67) (.agg #[.slice ta n ca, .int .i64 r, .int .i64 c, .slice tb m cb])) (some 70) (.slice th q ch)) (some 73) (.float .f64 R)) (some 76) (.float .f64 Z)) (some 77) (.tuple #[.agg #[.slice uxu k1u k2u, .int .i64 r1u, .int .i64 c1u, .slice ulu k3u k4u], .agg #[.float .f64 Yu, .float .f64 Au, .float .f64 S1u, .slice ugu k5u k6u], .int .i64 EE])) (some 64) (.tuple #[.agg #[.slice uxu k1u k2u, .int .i64 r1u, .int .i64 c1u, .slice ulu k3u k4u], .agg #[.float .f64 Yu, .float .f64 Au, .float .f64 S1u, .slice ugu k5u k6u], .int .i64 EE])) (some 78) (.agg #[.slice uxu k1u k2u, .int .i64 r1u, .int .i64 c1u, .slice ulu k3u k4u])) (some 79) (.agg #[.float .f64 Yu, .float .f64 Au, .float .f64 S1u, .slice ugu k5u k6u])) (some 80) (.int .i64 EE)) W) := fun W ta ca tb cb th ch uxu k1u k2u r1u c1u ulu k3u k4u Yu Au S1u ugu k5u k6u HQ => by
        rw [hG.out, hA.out]
        simp only [Act.put, List.setIfInBounds_toArray, List.set_cons_zero, List.set_cons_succ]
        refine wpAnyH_ready (rs := [17, 18]) (by kernel_rfl) (by simp) ?_
        refine AllReadyH.cons (o := _) rfl (fun K hK => ?_) (AllReadyH.cons (o := _) rfl (fun K hK => ?_) AllReadyH.nil)
        · have hold := UpK.old (HQ.out.get (g := fun W => UpK EE f hs zs n R Z W uxu k1u k2u r1u c1u ulu k3u k4u Yu Au S1u ugu k5u k6u) 0 rfl)
          go_simp
          go_wp2_with fail
          have HQ := hid (HQ.out.alloc (RBox none 0 0 0 0 none 0 0))
          refine hK.out _ _ (HKT.out _ HQ.out.bel) (fun hHeld => ?_)
          clear hK K
          try simp only [List.setIfInBounds_toArray, List.set_cons_zero, List.set_cons_succ]
          obtain ⟨X, hX, HQ⟩ := frq_name HQ.out
          obtain ⟨t13, ht13, HQ⟩ := frq_head HQ.out
          have hy := hX.out
          unfold RBox at hy
          have hz := ht13.out
          rw [hy, hz]
          clear hy
          have HQ := hid (HQ.out.add (g := fun _ => DjT uxu ulu ugu t13) (kept_djt _ _ _ _) (djt_old hold hz))
          clear hz
          have HQ : Hid (FrQ u7 X [(t13, RBox none 0 0 0 0 none 0 0)] [fun _ => DjT uxu ulu ugu t13, fun W => UpK EE f hs zs n R Z W uxu k1u k2u r1u c1u ulu k3u k4u Yu Au S1u ugu k5u k6u, fun W => FlM W th q ch hs, fun W => FlM W tb m cb xs, fun W => FlM W ta n ca zs]) := frq_perm HQ.out (by simp) (by simp) (by simp)
          have hfin := HS5a.out X ta ca tb cb th ch uxu k1u k2u r1u c1u ulu k3u k4u Yu Au S1u ugu k5u k6u t13 HQ
          rw [hG.out, hA.out] at hfin
          simp only [Act.put, List.setIfInBounds_toArray, List.set_cons_zero, List.set_cons_succ] at hfin
          exact hfin
        · have hold := UpK.old (HQ.out.get (g := fun W => UpK EE f hs zs n R Z W uxu k1u k2u r1u c1u ulu k3u k4u Yu Au S1u ugu k5u k6u) 0 rfl)
          go_simp
          go_wp2_with fail
          have HQ := hid (HQ.out.alloc (StBox 0 0 0 none 0 0))
          refine hK.out _ _ (HKT.out _ HQ.out.bel) (fun hHeld => ?_)
          clear hK K
          try simp only [List.setIfInBounds_toArray, List.set_cons_zero, List.set_cons_succ]
          obtain ⟨X, hX, HQ⟩ := frq_name HQ.out
          obtain ⟨t14, ht14, HQ⟩ := frq_head HQ.out
          have hy := hX.out
          unfold StBox at hy
          have hz := ht14.out
          rw [hy, hz]
          clear hy
          have HQ := hid (HQ.out.add (g := fun _ => DjT uxu ulu ugu t14) (kept_djt _ _ _ _) (djt_old hold hz))
          clear hz
          have HQ : Hid (FrQ u7 X [(t14, StBox 0 0 0 none 0 0)] [fun _ => DjT uxu ulu ugu t14, fun W => UpK EE f hs zs n R Z W uxu k1u k2u r1u c1u ulu k3u k4u Yu Au S1u ugu k5u k6u, fun W => FlM W th q ch hs, fun W => FlM W tb m cb xs, fun W => FlM W ta n ca zs]) := frq_perm HQ.out (by simp) (by simp) (by simp)
          have hfin := HS5b.out X ta ca tb cb th ch uxu k1u k2u r1u c1u ulu k3u k4u Yu Au S1u ugu k5u k6u t14 HQ
          rw [hG.out, hA.out] at hfin
          simp only [Act.put, List.setIfInBounds_toArray, List.set_cons_zero, List.set_cons_succ] at hfin
          exact hfin
      have HS4a : Hid (∀ (W : World) (ta : Option Addr) (ca : Nat) (tb : Option Addr) (cb : Nat) (th : Option Addr) (ch : Nat) (t13 : Nat), Hid (FrQ u7 W [(t13, RBox none 0 0 0 0 none 0 0)] [fun W => FlM W th q ch hs, fun W => FlM W tb m cb xs, fun W => FlM W ta n ca zs]) → G 9 #[true, true, true, true, true, true, true, true, true, true, true, true, false, false, false, false, false, true, false, false, false, false] (Act.put (Act.put (Act.put (Act.put (Act.put (A0) (some 67) (.agg #[.slice ta n ca, .int .i64 r, .int .i64 c, .slice tb m cb])) (some 70) (.slice th q ch)) (some 73) (.float .f64 R)) (some 76) (.float .f64 Z)) (some 13) (.pointer (some ⟨t13, 0, none⟩))) W) := fun W ta ca tb cb th ch t13 HQ => by
        rw [hG.out, hA.out]
        simp only [Act.put, List.setIfInBounds_toArray, List.set_cons_zero, List.set_cons_succ]
        refine wpAnyH_ready (rs := [12, 18]) (by kernel_rfl) (by simp) ?_
        refine AllReadyH.cons (o := _) rfl (fun K hK => ?_) (AllReadyH.cons (o := _) rfl (fun K hK => ?_) AllReadyH.nil)
        · go_simp
          refine (HUP.out W ta ca tb cb th ch (HQ.out.get (g := fun W => FlM W ta n ca zs) 2 rfl) (HQ.out.get (g := fun W => FlM W tb m cb xs) 1 rfl) (HQ.out.get (g := fun W => FlM W th q ch hs) 0 rfl)).mono ?_
          rintro e X ⟨⟨uxu, k1u, k2u, r1u, c1u, ulu, k3u, k4u, Yu, Au, S1u, ugu, k5u, k6u, rfl, hup, hnew⟩, hb⟩
          have hdT : DjT uxu ulu ugu t13 := djt_new hnew (HQ.out.at 0 rfl)
          have HQ := hid (HQ.out.call hb)
          have HQ := hid (HQ.out.add (g := fun W => UpK EE f hs zs n R Z W uxu k1u k2u r1u c1u ulu k3u k4u Yu Au S1u ugu k5u k6u) (kept_upk _ _ _ _ _ _ _ _ _ _ _ _ _ _ _ _ _ _ _ _ _) hup)
          have HQ := hid (HQ.out.add (g := fun _ => DjT uxu ulu ugu t13) (kept_djt _ _ _ _) hdT)
          clear hb
          go_wp2_with fail
          refine hK.out _ _ (HKT.out _ HQ.out.bel) (fun hHeld => ?_)
          clear hK K
          try simp only [List.setIfInBounds_toArray, List.set_cons_zero, List.set_cons_succ]
          refine take_at 13 64 (.tuple #[.agg #[.slice uxu k1u k2u, .int .i64 r1u, .int .i64 c1u, .slice ulu k3u k4u], .agg #[.float .f64 Yu, .float .f64 Au, .float .f64 S1u, .slice ugu k5u k6u], .int .i64 EE]) rfl rfl (by kernel_rfl) (by kernel_rfl) (by kernel_rfl) (fun _ _ _ h => h) (Or.inl ⟨by rfl, fun w hSw => by (try dsimp only at hSw); go_simp⟩) (by assumption) ?_
          simp only [Act.put, List.setIfInBounds_toArray, List.set_cons_zero, List.set_cons_succ]
          refine take_at 14 78 (.agg #[.slice uxu k1u k2u, .int .i64 r1u, .int .i64 c1u, .slice ulu k3u k4u]) rfl rfl (by kernel_rfl) (by kernel_rfl) (by kernel_rfl) (fun _ _ _ h => h) (Or.inl ⟨by rfl, fun w hSw => by (try dsimp only at hSw); go_simp⟩) (by assumption) ?_
          simp only [Act.put, List.setIfInBounds_toArray, List.set_cons_zero, List.set_cons_succ]
          refine take_at 15 79 (.agg #[.float .f64 Yu, .float .f64 Au, .float .f64 S1u, .slice ugu k5u k6u]) rfl rfl (by kernel_rfl) (by kernel_rfl) (by kernel_rfl) (fun _ _ _ h => h) (Or.inl ⟨by rfl, fun w hSw => by (try dsimp only at hSw); go_simp⟩) (by assumption) ?_
          simp only [Act.put, List.setIfInBounds_toArray, List.set_cons_zero, List.set_cons_succ]
          refine take_at 16 80 (.int .i64 EE) rfl rfl (by kernel_rfl) (by kernel_rfl) (by kernel_rfl) (fun _ _ _ h => h) (Or.inl ⟨by rfl, fun w hSw => by (try dsimp only at hSw); go_simp⟩) (by assumption) ?_
          simp only [Act.put, List.setIfInBounds_toArray, List.set_cons_zero, List.set_cons_succ]
          have hfin := HS5a.out X ta ca tb cb th ch uxu k1u k2u r1u c1u ulu k3u k4u Yu Au S1u ugu k5u k6u t13 HQ
          rw [hG.out, hA.out] at hfin
          simp only [Act.put, List.setIfInBounds_toArray, List.set_cons_zero, List.set_cons_succ] at hfin
          exact hfin
        · go_simp
          go_wp2_with fail
          have HQ := hid (HQ.out.alloc (StBox 0 0 0 none 0 0))
          refine hK.out _ _ (HKT.out _ HQ.out.bel) (fun hHeld => ?_)
          clear hK K
          try simp only [List.setIfInBounds_toArray, List.set_cons_zero, List.set_cons_succ]
          obtain ⟨X, hX, HQ⟩ := frq_name HQ.out
          obtain ⟨t14, ht14, HQ⟩ := frq_head HQ.out
          have hy := hX.out
          unfold StBox at hy
          have hz := ht14.out
          rw [hy, hz]
          clear hy
          clear hz
          have HQ : Hid (FrQ u7 X [(t14, StBox 0 0 0 none 0 0), (t13, RBox none 0 0 0 0 none 0 0)] [fun W => FlM W th q ch hs, fun W => FlM W tb m cb xs, fun W => FlM W ta n ca zs]) := frq_perm HQ.out (by simp) (by have hn := HQ.out.nod; simp only [List.map_cons, List.map_nil, List.nodup_cons, List.mem_cons, List.not_mem_nil, or_false, not_false_iff, List.nodup_nil, and_true] at hn ⊢; omega) (by simp)
          have hfin := HS4ab.out X ta ca tb cb th ch t13 t14 HQ
          rw [hG.out, hA.out] at hfin
          simp only [Act.put, List.setIfInBounds_toArray, List.set_cons_zero, List.set_cons_succ] at hfin
          exact hfin
      have HS4b : Hid (∀ (W : World) (ta : Option Addr) (ca : Nat) (tb : Option Addr) (cb : Nat) (th : Option Addr) (ch : Nat) (t14 : Nat), Hid (FrQ u7 W [(t14, StBox 0 0 0 none 0 0)] [fun W => FlM W th q ch hs, fun W => FlM W tb m cb xs, fun W => FlM W ta n ca zs]) → G 9 #[true, true, true, true, true, true, true, true, true, true, true, true, false, false, false, false, false, false, true, false, false, false] (Act.put (Act.put (Act.put (Act.put (Act.put (A0) (some 67) (.agg #[.slice ta n ca, .int .i64 r, .int .i64 c, .slice tb m cb])) (some 70) (.slice th q ch)) (some 73) (.float .f64 R)) (some 76) (.float .f64 Z)) (some 14) (.pointer (some ⟨t14, 0, none⟩))) W) := fun W ta ca tb cb th ch t14 HQ => by
        rw [hG.out, hA.out]
        simp only [Act.put, List.setIfInBounds_toArray, List.set_cons_zero, List.set_cons_succ]
        refine wpAnyH_ready (rs := [12, 17]) (by kernel_rfl) (by simp) ?_
        refine AllReadyH.cons (o := _) rfl (fun K hK => ?_) (AllReadyH.cons (o := _) rfl (fun K hK => ?_) AllReadyH.nil)
        · go_simp
          refine (HUP.out W ta ca tb cb th ch (HQ.out.get (g := fun W => FlM W ta n ca zs) 2 rfl) (HQ.out.get (g := fun W => FlM W tb m cb xs) 1 rfl) (HQ.out.get (g := fun W => FlM W th q ch hs) 0 rfl)).mono ?_
          rintro e X ⟨⟨uxu, k1u, k2u, r1u, c1u, ulu, k3u, k4u, Yu, Au, S1u, ugu, k5u, k6u, rfl, hup, hnew⟩, hb⟩
          have hdU : DjT uxu ulu ugu t14 := djt_new hnew (HQ.out.at 0 rfl)
          have HQ := hid (HQ.out.call hb)
          have HQ := hid (HQ.out.add (g := fun W => UpK EE f hs zs n R Z W uxu k1u k2u r1u c1u ulu k3u k4u Yu Au S1u ugu k5u k6u) (kept_upk _ _ _ _ _ _ _ _ _ _ _ _ _ _ _ _ _ _ _ _ _) hup)
          have HQ := hid (HQ.out.add (g := fun _ => DjT uxu ulu ugu t14) (kept_djt _ _ _ _) hdU)
          clear hb
          go_wp2_with fail
          refine hK.out _ _ (HKT.out _ HQ.out.bel) (fun hHeld => ?_)
          clear hK K
          try simp only [List.setIfInBounds_toArray, List.set_cons_zero, List.set_cons_succ]
          refine take_at 13 64 (.tuple #[.agg #[.slice uxu k1u k2u, .int .i64 r1u, .int .i64 c1u, .slice ulu k3u k4u], .agg #[.float .f64 Yu, .float .f64 Au, .float .f64 S1u, .slice ugu k5u k6u], .int .i64 EE]) rfl rfl (by kernel_rfl) (by kernel_rfl) (by kernel_rfl) (fun _ _ _ h => h) (Or.inl ⟨by rfl, fun w hSw => by (try dsimp only at hSw); go_simp⟩) (by assumption) ?_
          simp only [Act.put, List.setIfInBounds_toArray, List.set_cons_zero, List.set_cons_succ]
          refine take_at 14 78 (.agg #[.slice uxu k1u k2u, .int .i64 r1u, .int .i64 c1u, .slice ulu k3u k4u]) rfl rfl (by kernel_rfl) (by kernel_rfl) (by kernel_rfl) (fun _ _ _ h => h) (Or.inl ⟨by rfl, fun w hSw => by (try dsimp only at hSw); go_simp⟩) (by assumption) ?_
          simp only [Act.put, List.setIfInBounds_toArray, List.set_cons_zero, List.set_cons_succ]
          refine take_at 15 79 (.agg #[.float .f64 Yu, .float .f64 Au, .float .f64 S1u, .slice ugu k5u k6u]) rfl rfl (by kernel_rfl) (by kernel_rfl) (by kernel_rfl) (fun _ _ _ h => h) (Or.inl ⟨by rfl, fun w hSw => by (try dsimp only at hSw); go_simp⟩) (by assumption) ?_
          simp only [Act.put, List.setIfInBounds_toArray, List.set_cons_zero, List.set_cons_succ]
          refine take_at 16 80 (.int .i64 EE) rfl rfl (by kernel_rfl) (by kernel_rfl) (by kernel_rfl) (fun _ _ _ h => h) (Or.inl ⟨by rfl, fun w hSw => by (try dsimp only at hSw); go_simp⟩) (by assumption) ?_
          simp only [Act.put, List.setIfInBounds_toArray, List.set_cons_zero, List.set_cons_succ]
          have hfin := HS5b.out X ta ca tb cb th ch uxu k1u k2u r1u c1u ulu k3u k4u Yu Au S1u ugu k5u k6u t14 HQ
          rw [hG.out, hA.out] at hfin
          simp only [Act.put, List.setIfInBounds_toArray, List.set_cons_zero, List.set_cons_succ] at hfin
          exact hfin
        · go_simp
          go_wp2_with fail
          have HQ := hid (HQ.out.alloc (RBox none 0 0 0 0 none 0 0))
          refine hK.out _ _ (HKT.out _ HQ.out.bel) (fun hHeld => ?_)
          clear hK K
          try simp only [List.setIfInBounds_toArray, List.set_cons_zero, List.set_cons_succ]
          obtain ⟨X, hX, HQ⟩ := frq_name HQ.out
          obtain ⟨t13, ht13, HQ⟩ := frq_head HQ.out
          have hy := hX.out
          unfold RBox at hy
          have hz := ht13.out
          rw [hy, hz]
          clear hy
          clear hz
          have HQ : Hid (FrQ u7 X [(t14, StBox 0 0 0 none 0 0), (t13, RBox none 0 0 0 0 none 0 0)] [fun W => FlM W th q ch hs, fun W => FlM W tb m cb xs, fun W => FlM W ta n ca zs]) := frq_perm HQ.out (by simp) (by have hn := HQ.out.nod; simp only [List.map_cons, List.map_nil, List.nodup_cons, List.mem_cons, List.not_mem_nil, or_false, not_false_iff, List.nodup_nil, and_true] at hn ⊢; omega) (by simp)
          have hfin := HS4ab.out X ta ca tb cb th ch t13 t14 HQ
          rw [hG.out, hA.out] at hfin
          simp only [Act.put, List.setIfInBounds_toArray, List.set_cons_zero, List.set_cons_succ] at hfin
          exact hfin
      have HS3ab : Hid (∀ (W : World) (ta : Option Addr) (ca : Nat) (tb : Option Addr) (cb : Nat) (th : Option Addr) (ch : Nat) (t13 t14 : Nat), Hid (FrQ u7 W [(t14, StBox 0 0 0 none 0 0), (t13, RBox none 0 0 0 0 none 0 0)] [fun W => FlM W th q ch hs, fun W => FlM W tb m cb xs, fun W => FlM W ta n ca zs]) → G 9 #[true, true, true, true, true, true, true, true, true, true, true, false, false, false, false, false, false, true, true, false, false, false] (Act.put (Act.put (Act.put (Act.put (Act.put (A0) (some 67) (.agg #[.slice ta n ca, .int .i64 r, .int .i64 c, .slice tb m cb])) (some 70) (.slice th q ch)) (some 73) (.float .f64 R)) (some 13) (.pointer (some ⟨t13, 0, none⟩))) (some 14) (.pointer (some ⟨t14, 0, none⟩))) W) := fun W ta ca tb cb th ch t13 t14 HQ => by
        rw [hG.out, hA.out]
        simp only [Act.put, List.setIfInBounds_toArray, List.set_cons_zero, List.set_cons_succ]
        refine wpAnyH_ready (rs := [11]) (by kernel_rfl) (by simp) ?_
        refine AllReadyH.cons (o := _) rfl (fun K hK => ?_) AllReadyH.nil
        go_simp
        refine (HFZ2.out W).mono ?_
        rintro e X ⟨rfl, hb⟩
        have HQ := hid (HQ.out.call hb)
        clear hb
        go_wp2_with fail
        refine hK.out _ _ (HKT.out _ HQ.out.bel) (fun hHeld => ?_)
        clear hK K
        try simp only [List.setIfInBounds_toArray, List.set_cons_zero, List.set_cons_succ]
        have hfin := HS4ab.out X ta ca tb cb th ch t13 t14 HQ
        rw [hG.out, hA.out] at hfin
        simp only [Act.put, List.setIfInBounds_toArray, List.set_cons_zero, List.set_cons_succ] at hfin
        exact hfin
      clear HS5a HS5b HS4ab
      have HS4 : Hid (∀ (W : World) (ta : Option Addr) (ca : Nat) (tb : Option Addr) (cb : Nat) (th : Option Addr) (ch : Nat) , Hid (FrQ u7 W [] [fun W => FlM W th q ch hs, fun W => FlM W tb m cb xs, fun W => FlM W ta n ca zs]) → G 10 #[true, true, true, true, true, true, true, true, true, true, true, true, false, false, false, false, false, false, false, false, false, false] (Act.put (Act.put (Act.put (Act.put (A0) (some 67) (.agg #[.slice ta n ca, .int .i64 r, .int .i64 c, .slice tb m cb])) (some 70) (.slice th q ch)) (some 73) (.float .f64 R)) (some 76) (.float .f64 Z)) W) := fun W ta ca tb cb th ch HQ => by
        rw [hG.out, hA.out]
        simp only [Act.put, List.setIfInBounds_toArray, List.set_cons_zero, List.set_cons_succ]
        refine wpAnyH_ready (rs := [12, 17, 18]) (by kernel_rfl) (by simp) ?_
        refine AllReadyH.cons (o := _) rfl (fun K hK => ?_) (AllReadyH.cons (o := _) rfl (fun K hK => ?_) (AllReadyH.cons (o := _) rfl (fun K hK => ?_) AllReadyH.nil))
        · go_simp
          refine (HUP.out W ta ca tb cb th ch (HQ.out.get (g := fun W => FlM W ta n ca zs) 2 rfl) (HQ.out.get (g := fun W => FlM W tb m cb xs) 1 rfl) (HQ.out.get (g := fun W => FlM W th q ch hs) 0 rfl)).mono ?_
          rintro e X ⟨⟨uxu, k1u, k2u, r1u, c1u, ulu, k3u, k4u, Yu, Au, S1u, ugu, k5u, k6u, rfl, hup, hnew⟩, hb⟩
          have HQ := hid (HQ.out.call hb)
          have HQ := hid (HQ.out.add (g := fun W => UpK EE f hs zs n R Z W uxu k1u k2u r1u c1u ulu k3u k4u Yu Au S1u ugu k5u k6u) (kept_upk _ _ _ _ _ _ _ _ _ _ _ _ _ _ _ _ _ _ _ _ _) hup)
          clear hb
          go_wp2_with fail
          refine hK.out _ _ (HKT.out _ HQ.out.bel) (fun hHeld => ?_)
          clear hK K
          try simp only [List.setIfInBounds_toArray, List.set_cons_zero, List.set_cons_succ]
          refine take_at 13 64 (.tuple #[.agg #[.slice uxu k1u k2u, .int .i64 r1u, .int .i64 c1u, .slice ulu k3u k4u], .agg #[.float .f64 Yu, .float .f64 Au, .float .f64 S1u, .slice ugu k5u k6u], .int .i64 EE]) rfl rfl (by kernel_rfl) (by kernel_rfl) (by kernel_rfl) (fun _ _ _ h => h) (Or.inl ⟨by rfl, fun w hSw => by (try dsimp only at hSw); go_simp⟩) (by assumption) ?_
          simp only [Act.put, List.setIfInBounds_toArray, List.set_cons_zero, List.set_cons_succ]
          refine take_at 14 78 (.agg #[.slice uxu k1u k2u, .int .i64 r1u, .int .i64 c1u, .slice ulu k3u k4u]) rfl rfl (by kernel_rfl) (by kernel_rfl) (by kernel_rfl) (fun _ _ _ h => h) (Or.inl ⟨by rfl, fun w hSw => by (try dsimp only at hSw); go_simp⟩) (by assumption) ?_
          simp only [Act.put, List.setIfInBounds_toArray, List.set_cons_zero, List.set_cons_succ]
          refine take_at 15 79 (.agg #[.float .f64 Yu, .float .f64 Au, .float .f64 S1u, .slice ugu k5u k6u]) rfl rfl (by kernel_rfl) (by kernel_rfl) (by kernel_rfl) (fun _ _ _ h => h) (Or.inl ⟨by rfl, fun w hSw => by (try dsimp only at hSw); go_simp⟩) (by assumption) ?_
          simp only [Act.put, List.setIfInBounds_toArray, List.set_cons_zero, List.set_cons_succ]
          refine take_at 16 80 (.int .i64 EE) rfl rfl (by kernel_rfl) (by kernel_rfl) (by kernel_rfl) (fun _ _ _ h => h) (Or.inl ⟨by rfl, fun w hSw => by (try dsimp only at hSw); go_simp⟩) (by assumption) ?_
          simp only [Act.put, List.setIfInBounds_toArray, List.set_cons_zero, List.set_cons_succ]
          have hfin := HS5.out X ta ca tb cb th ch uxu k1u k2u r1u c1u ulu k3u k4u Yu Au S1u ugu k5u k6u HQ
          rw [hG.out, hA.out] at hfin
          simp only [Act.put, List.setIfInBounds_toArray, List.set_cons_zero, List.set_cons_succ] at hfin
          exact hfin
        · go_simp
          go_wp2_with fail
          have HQ := hid (HQ.out.alloc (RBox none 0 0 0 0 none 0 0))
          refine hK.out _ _ (HKT.out _ HQ.out.bel) (fun hHeld => ?_)
          clear hK K
          try simp only [List.setIfInBounds_toArray, List.set_cons_zero, List.set_cons_succ]
          obtain ⟨X, hX, HQ⟩ := frq_name HQ.out
          obtain ⟨t13, ht13, HQ⟩ := frq_head HQ.out
          have hy := hX.out
          unfold RBox at hy
          have hz := ht13.out
          rw [hy, hz]
          clear hy
          clear hz
          have HQ : Hid (FrQ u7 X [(t13, RBox none 0 0 0 0 none 0 0)] [fun W => FlM W th q ch hs, fun W => FlM W tb m cb xs, fun W => FlM W ta n ca zs]) := frq_perm HQ.out (by simp) (by simp) (by simp)
          have hfin := HS4a.out X ta ca tb cb th ch t13 HQ
          rw [hG.out, hA.out] at hfin
          simp only [Act.put, List.setIfInBounds_toArray, List.set_cons_zero, List.set_cons_succ] at hfin
          exact hfin
        · go_simp
          go_wp2_with fail
          have HQ := hid (HQ.out.alloc (StBox 0 0 0 none 0 0))
          refine hK.out _ _ (HKT.out _ HQ.out.bel) (fun hHeld => ?_)
          clear hK K
          try simp only [List.setIfInBounds_toArray, List.set_cons_zero, List.set_cons_succ]
          obtain ⟨X, hX, HQ⟩ := frq_name HQ.out
          obtain ⟨t14, ht14, HQ⟩ := frq_head HQ.out
          have hy := hX.out
          unfold StBox at hy
          have hz := ht14.out
          rw [hy, hz]
          clear hy
          clear hz
          have HQ : Hid (FrQ u7 X [(t14, StBox 0 0 0 none 0 0)] [fun W => FlM W th q ch hs, fun W => FlM W tb m cb xs, fun W => FlM W ta n ca zs]) := frq_perm HQ.out (by simp) (by simp) (by simp)
          have hfin := HS4b.out X ta ca tb cb th ch t14 HQ
          rw [hG.out, hA.out] at hfin
          simp only [Act.put, List.setIfInBounds_toArray, List.set_cons_zero, List.set_cons_succ] at hfin
          exact hfin
      have HS3a : Hid (∀ (W : World) (ta : Option Addr) (ca : Nat) (tb : Option Addr) (cb : Nat) (th : Option Addr) (ch : Nat) (t13 : Nat), Hid (FrQ u7 W [(t13, RBox none 0 0 0 0 none 0 0)] [fun W => FlM W th q ch hs, fun W => FlM W tb m cb xs, fun W => FlM W ta n ca zs]) → G 10 #[true, true, true, true, true, true, true, true, true, true, true, false, false, false, false, false, false, true, false, false, false, false] (Act.put (Act.put (Act.put (Act.put (A0) (some 67) (.agg #[.slice ta n ca, .int .i64 r, .int .i64 c, .slice tb m cb])) (some 70) (.slice th q ch)) (some 73) (.float .f64 R)) (some 13) (.pointer (some ⟨t13, 0, none⟩))) W) := fun W ta ca tb cb th ch t13 HQ => by
        rw [hG.out, hA.out]
        simp only [Act.put, List.setIfInBounds_toArray, List.set_cons_zero, List.set_cons_succ]
        refine wpAnyH_ready (rs := [11, 18]) (by kernel_rfl) (by simp) ?_
        refine AllReadyH.cons (o := _) rfl (fun K hK => ?_) (AllReadyH.cons (o := _) rfl (fun K hK => ?_) AllReadyH.nil)
        · go_simp
          refine (HFZ2.out W).mono ?_
          rintro e X ⟨rfl, hb⟩
          have HQ := hid (HQ.out.call hb)
          clear hb
          go_wp2_with fail
          refine hK.out _ _ (HKT.out _ HQ.out.bel) (fun hHeld => ?_)
          clear hK K
          try simp only [List.setIfInBounds_toArray, List.set_cons_zero, List.set_cons_succ]
          have hfin := HS4a.out X ta ca tb cb th ch t13 HQ
          rw [hG.out, hA.out] at hfin
          simp only [Act.put, List.setIfInBounds_toArray, List.set_cons_zero, List.set_cons_succ] at hfin
          exact hfin
        · go_simp
          go_wp2_with fail
          have HQ := hid (HQ.out.alloc (StBox 0 0 0 none 0 0))
          refine hK.out _ _ (HKT.out _ HQ.out.bel) (fun hHeld => ?_)
          clear hK K
          try simp only [List.setIfInBounds_toArray, List.set_cons_zero, List.set_cons_succ]
          obtain ⟨X, hX, HQ⟩ := frq_name HQ.out
          obtain ⟨t14, ht14, HQ⟩ := frq_head HQ.out
          have hy := hX.out
          unfold StBox at hy
          have hz := ht14.out
          rw [hy, hz]
          clear hy
          clear hz
          have HQ : Hid (FrQ u7 X [(t14, StBox 0 0 0 none 0 0), (t13, RBox none 0 0 0 0 none 0 0)] [fun W => FlM W th q ch hs, fun W => FlM W tb m cb xs, fun W => FlM W ta n ca zs]) := frq_perm HQ.out (by simp) (by have hn := HQ.out.nod; simp only [List.map_cons, List.map_nil, List.nodup_cons, List.mem_cons, List.not_mem_nil, or_false, not_false_iff, List.nodup_nil, and_true] at hn ⊢; omega) (by simp)
          have hfin := HS3ab.out X ta ca tb cb th ch t13 t14 HQ
          rw [hG.out, hA.out] at hfin
          simp only [Act.put, List.setIfInBounds_toArray, List.set_cons_zero, List.set_cons_succ] at hfin
          exact hfin
      have HS3b : Hid (∀ (W : World) (ta : Option Addr) (ca : Nat) (tb : Option Addr) (cb : Nat) (th : Option Addr) (ch : Nat) (t14 : Nat), Hid (FrQ u7 W [(t14, StBox 0 0 0 none 0 0)] [fun W => FlM W th q ch hs, fun W => FlM W tb m cb xs, fun W => FlM W ta n ca zs]) → G 10 #[true, true, true, true, true, true, true, true, true, true, true, false, false, false, false, false, false, false, true, false, false, false] (Act.put (Act.put (Act.put (Act.put (A0) (some 67) (.agg #[.slice ta n ca, .int .i64 r, .int .i64 c, .slice tb m cb])) (some 70) (.slice th q ch)) (some 73) (.float .f64 R)) (some 14) (.pointer (some ⟨t14, 0, none⟩))) W) := fun W ta ca tb cb th ch t14 HQ => by
        rw [hG.out, hA.out]
        simp only [Act.put, List.setIfInBounds_toArray, List.set_cons_zero, List.set_cons_succ]
        refine wpAnyH_ready (rs := [11, 17]) (by kernel_rfl) (by simp) ?_
        refine AllReadyH.cons (o := _) rfl (fun K hK => ?_) (AllReadyH.cons (o := _) rfl (fun K hK => ?_) AllReadyH.nil)
        · go_simp
          refine (HFZ2.out W).mono ?_
          rintro e X ⟨rfl, hb⟩
          have HQ := hid (HQ.out.call hb)
          clear hb
          go_wp2_with fail
          refine hK.out _ _ (HKT.out _ HQ.out.bel) (fun hHeld => ?_)
          clear hK K
          try simp only [List.setIfInBounds_toArray, List.set_cons_zero, List.set_cons_succ]
          have hfin := HS4b.out X ta ca tb cb th ch t14 HQ
          rw [hG.out, hA.out] at hfin
          simp only [Act.put, List.setIfInBounds_toArray, List.set_cons_zero, List.set_cons_succ] at hfin
          exact hfin
        · go_simp
          go_wp2_with fail
          have HQ := hid (HQ.out.alloc (RBox none 0 0 0 0 none 0 0))
          refine hK.out _ _ (HKT.out _ HQ.out.bel) (fun hHeld => ?_)
          clear hK K
          try simp only [List.setIfInBounds_toArray, List.set_cons_zero, List.set_cons_succ]
          obtain ⟨X, hX, HQ⟩ := frq_name HQ.out
          obtain ⟨t13, ht13, HQ⟩ := frq_head HQ.out
          have hy := hX.out
          unfold RBox at hy
          have hz := ht13.out
          rw [hy, hz]
          clear hy
          clear hz
          have HQ : Hid (FrQ u7 X [(t14, StBox 0 0 0 none 0 0), (t13, RBox none 0 0 0 0 none 0 0)] [fun W => FlM W th q ch hs, fun W => FlM W tb m cb xs, fun W => FlM W ta n ca zs]) := frq_perm HQ.out (by simp) (by have hn := HQ.out.nod; simp only [List.map_cons, List.map_nil, List.nodup_cons, List.mem_cons, List.not_mem_nil, or_false, not_false_iff, List.nodup_nil, and_true] at hn ⊢; omega) (by simp)
          have hfin := HS3ab.out X ta ca tb cb th ch t13 t14 HQ
          rw [hG.out, hA.out] at hfin
          simp only [Act.put, List.setIfInBounds_toArray, List.set_cons_zero, List.set_cons_succ] at hfin
          exact hfin
      have HS2ab : Hid (∀ (W : World) (ta : Option Addr) (ca : Nat) (tb : Option Addr) (cb : Nat) (th : Option Addr) (ch : Nat) (t13 t14 : Nat), Hid (FrQ u7 W [(t14, StBox 0 0 0 none 0 0), (t13, RBox none 0 0 0 0 none 0 0)] [fun W => FlM W th q ch hs, fun W => FlM W tb m cb xs, fun W => FlM W ta n ca zs]) → G 10 #[true, true, true, true, true, true, true, true, false, true, true, false, false, false, false, false, false, true, true, false, false, false] (Act.put (Act.put (Act.put (Act.put (A0) (some 67) (.agg #[.slice ta n ca, .int .i64 r, .int .i64 c, .slice tb m cb])) (some 70) (.slice th q ch)) (some 13) (.pointer (some ⟨t13, 0, none⟩))) (some 14) (.pointer (some ⟨t14, 0, none⟩))) W) := fun W ta ca tb cb th ch t13 t14 HQ => by
        rw [hG.out, hA.out]
        simp only [Act.put, List.setIfInBounds_toArray, List.set_cons_zero, List.set_cons_succ]
        refine wpAnyH_ready (rs := [8]) (by kernel_rfl) (by simp) ?_
        refine AllReadyH.cons (o := _) rfl (fun K hK => ?_) AllReadyH.nil
        go_simp
        refine (HFR2.out W).mono ?_
        rintro e X ⟨rfl, hb⟩
        have HQ := hid (HQ.out.call hb)
        clear hb
        go_wp2_with fail
        refine hK.out _ _ (HKT.out _ HQ.out.bel) (fun hHeld => ?_)
        clear hK K
        try simp only [List.setIfInBounds_toArray, List.set_cons_zero, List.set_cons_succ]
        have hfin := HS3ab.out X ta ca tb cb th ch t13 t14 HQ
        rw [hG.out, hA.out] at hfin
        simp only [Act.put, List.setIfInBounds_toArray, List.set_cons_zero, List.set_cons_succ] at hfin
        exact hfin
      clear HS5 HS4a HS4b HS3ab
      have HS3 : Hid (∀ (W : World) (ta : Option Addr) (ca : Nat) (tb : Option Addr) (cb : Nat) (th : Option Addr) (ch : Nat) , Hid (FrQ u7 W [] [fun W => FlM W th q ch hs, fun W => FlM W tb m cb xs, fun W => FlM W ta n ca zs]) → G 11 #[true, true, true, true, true, true, true, true, true, true, true, false, false, false, false, false, false, false, false, false, false, false] (Act.put (Act.put (Act.put (A0) (some 67) (.agg #[.slice ta n ca, .int .i64 r, .int .i64 c, .slice tb m cb])) (some 70) (.slice th q ch)) (some 73) (.float .f64 R)) W) := fun W ta ca tb cb th ch HQ => by
        rw [hG.out, hA.out]
        simp only [Act.put, List.setIfInBounds_toArray, List.set_cons_zero, List.set_cons_succ]
        refine wpAnyH_ready (rs := [11, 17, 18]) (by kernel_rfl) (by simp) ?_
        refine AllReadyH.cons (o := _) rfl (fun K hK => ?_) (AllReadyH.cons (o := _) rfl (fun K hK => ?_) (AllReadyH.cons (o := _) rfl (fun K hK => ?_) AllReadyH.nil))
        · go_simp
          refine (HFZ2.out W).mono ?_
          rintro e X ⟨rfl, hb⟩
          have HQ := hid (HQ.out.call hb)
          clear hb
          go_wp2_with fail
          refine hK.out _ _ (HKT.out _ HQ.out.bel) (fun hHeld => ?_)
          clear hK K
          try simp only [List.setIfInBounds_toArray, List.set_cons_zero, List.set_cons_succ]
          have hfin := HS4.out X ta ca tb cb th ch HQ
          rw [hG.out, hA.out] at hfin
          simp only [Act.put, List.setIfInBounds_toArray, List.set_cons_zero, List.set_cons_succ] at hfin
          exact hfin
        · go_simp
          go_wp2_with fail
          have HQ := hid (HQ.out.alloc (RBox none 0 0 0 0 none 0 0))
          refine hK.out _ _ (HKT.out _ HQ.out.bel) (fun hHeld => ?_)
          clear hK K
          try simp only [List.setIfInBounds_toArray, List.set_cons_zero, List.set_cons_succ]
          obtain ⟨X, hX, HQ⟩ := frq_name HQ.out
          obtain ⟨t13, ht13, HQ⟩ := frq_head HQ.out
          have hy := hX.out
          unfold RBox at hy
          have hz := ht13.out
          rw [hy, hz]
          clear hy
          clear hz
          have HQ : Hid (FrQ u7 X [(t13, RBox none 0 0 0 0 none 0 0)] [fun W => FlM W th q ch hs, fun W => FlM W tb m cb xs, fun W => FlM W ta n ca zs]) := frq_perm HQ.out (by simp) (by simp) (by simp)
          have hfin := HS3a.out X ta ca tb cb th ch t13 HQ
          rw [hG.out, hA.out] at hfin
          simp only [Act.put, List.setIfInBounds_toArray, List.set_cons_zero, List.set_cons_succ] at hfin
          exact hfin
        · go_simp
          go_wp2_with fail
          have HQ := hid (HQ.out.alloc (StBox 0 0 0 none 0 0))
          refine hK.out _ _ (HKT.out _ HQ.out.bel) (fun hHeld => ?_)
          clear hK K
          try simp only [List.setIfInBounds_toArray, List.set_cons_zero, List.set_cons_succ]
          obtain ⟨X, hX, HQ⟩ := frq_name HQ.out
          obtain ⟨t14, ht14, HQ⟩ := frq_head HQ.out
          have hy := hX.out
          unfold StBox at hy
          have hz := ht14.out
          rw [hy, hz]
          clear hy
          clear hz
          have HQ : Hid (FrQ u7 X [(t14, StBox 0 0 0 none 0 0)] [fun W => FlM W th q ch hs, fun W => FlM W tb m cb xs, fun W => FlM W ta n ca zs]) := frq_perm HQ.out (by simp) (by simp) (by simp)
          have hfin := HS3b.out X ta ca tb cb th ch t14 HQ
          rw [hG.out, hA.out] at hfin
          simp only [Act.put, List.setIfInBounds_toArray, List.set_cons_zero, List.set_cons_succ] at hfin
          exact hfin
      have HS2a : Hid (∀ (W : World) (ta : Option Addr) (ca : Nat) (tb : Option Addr) (cb : Nat) (th : Option Addr) (ch : Nat) (t13 : Nat), Hid (FrQ u7 W [(t13, RBox none 0 0 0 0 none 0 0)] [fun W => FlM W th q ch hs, fun W => FlM W tb m cb xs, fun W => FlM W ta n ca zs]) → G 11 #[true, true, true, true, true, true, true, true, false, true, true, false, false, false, false, false, false, true, false, false, false, false] (Act.put (Act.put (Act.put (A0) (some 67) (.agg #[.slice ta n ca, .int .i64 r, .int .i64 c, .slice tb m cb])) (some 70) (.slice th q ch)) (some 13) (.pointer (some ⟨t13, 0, none⟩))) W) := fun W ta ca tb cb th ch t13 HQ => by
        rw [hG.out, hA.out]
        simp only [Act.put, List.setIfInBounds_toArray, List.set_cons_zero, List.set_cons_succ]
        refine wpAnyH_ready (rs := [8, 18]) (by kernel_rfl) (by simp) ?_
        refine AllReadyH.cons (o := _) rfl (fun K hK => ?_) (AllReadyH.cons (o := _) rfl (fun K hK => ?_) AllReadyH.nil)
        · go_simp
          refine (HFR2.out W).mono ?_
          rintro e X ⟨rfl, hb⟩
          have HQ := hid (HQ.out.call hb)
          clear hb
          go_wp2_with fail
          refine hK.out _ _ (HKT.out _ HQ.out.bel) (fun hHeld => ?_)
          clear hK K
          try simp only [List.setIfInBounds_toArray, List.set_cons_zero, List.set_cons_succ]
          have hfin := HS3a.out X ta ca tb cb th ch t13 HQ
          rw [hG.out, hA.out] at hfin
          simp only [Act.put, List.setIfInBounds_toArray, List.set_cons_zero, List.set_cons_succ] at hfin
          exact hfin
        · go_simp
          go_wp2_with fail
          have HQ := hid (HQ.out.alloc (StBox 0 0 0 none 0 0))
          refine hK.out _ _ (HKT.out _ HQ.out.bel) (fun hHeld => ?_)
          clear hK K
          try simp only [List.setIfInBounds_toArray, List.set_cons_zero, List.set_cons_succ]
          obtain ⟨X, hX, HQ⟩ := frq_name HQ.out
          obtain ⟨t14, ht14, HQ⟩ := frq_head HQ.out
          have hy := hX.out
          unfold StBox at hy
          have hz := ht14.out
          rw [hy, hz]
          clear hy
          clear hz
          have HQ : Hid (FrQ u7 X [(t14, StBox 0 0 0 none 0 0), (t13, RBox none 0 0 0 0 none 0 0)] [fun W => FlM W th q ch hs, fun W => FlM W tb m cb xs, fun W => FlM W ta n ca zs]) := frq_perm HQ.out (by simp) (by have hn := HQ.out.nod; simp only [List.map_cons, List.map_nil, List.nodup_cons, List.mem_cons, List.not_mem_nil, or_false, not_false_iff, List.nodup_nil, and_true] at hn ⊢; omega) (by simp)
          have hfin := HS2ab.out X ta ca tb cb th ch t13 t14 HQ
          rw [hG.out, hA.out] at hfin
          simp only [Act.put, List.setIfInBounds_toArray, List.set_cons_zero, List.set_cons_succ] at hfin
          exact hfin
      have HS2b : Hid (∀ (W : World) (ta : Option Addr) (ca : Nat) (tb : Option Addr) (cb : Nat) (th : Option Addr) (ch : Nat) (t14 : Nat), Hid (FrQ u7 W [(t14, StBox 0 0 0 none 0 0)] [fun W => FlM W th q ch hs, fun W => FlM W tb m cb xs, fun W => FlM W ta n ca zs]) → G 11 #[true, true, true, true, true, true, true, true, false, true, true, false, false, false, false, false, false, false, true, false, false, false] (Act.put (Act.put (Act.put (A0) (some 67) (.agg #[.slice ta n ca, .int .i64 r, .int .i64 c, .slice tb m cb])) (some 70) (.slice th q ch)) (some 14) (.pointer (some ⟨t14, 0, none⟩))) W) := fun W ta ca tb cb th ch t14 HQ => by
        rw [hG.out, hA.out]
        simp only [Act.put, List.setIfInBounds_toArray, List.set_cons_zero, List.set_cons_succ]
        refine wpAnyH_ready (rs := [8, 17]) (by kernel_rfl) (by simp) ?_
        refine AllReadyH.cons (o := _) rfl (fun K hK => ?_) (AllReadyH.cons (o := _) rfl (fun K hK => ?_) AllReadyH.nil)
        · go_simp
          refine (HFR2.out W).mono ?_
          rintro e X ⟨rfl, hb⟩
          have HQ := hid (HQ.out.call hb)
          clear hb
          go_wp2_with fail
          refine hK.out _ _ (HKT.out _ HQ.out.bel) (fun hHeld => ?_)
          clear hK K
          try simp only [List.setIfInBounds_toArray, List.set_cons_zero, List.set_cons_succ]
          have hfin := HS3b.out X ta ca tb cb th ch t14 HQ
          rw [hG.out, hA.out] at hfin
          simp only [Act.put, List.setIfInBounds_toArray, List.set_cons_zero, List.set_cons_succ] at hfin
          exact hfin
        · go_simp
          go_wp2_with fail
          have HQ := hid (HQ.out.alloc (RBox none 0 0 0 0 none 0 0))
          refine hK.out _ _ (HKT.out _ HQ.out.bel) (fun hHeld => ?_)
          clear hK K
          try simp only [List.setIfInBounds_toArray, List.set_cons_zero, List.set_cons_succ]
          obtain ⟨X, hX, HQ⟩ := frq_name HQ.out
          obtain ⟨t13, ht13, HQ⟩ := frq_head HQ.out
          have hy := hX.out
          unfold RBox at hy
          have hz := ht13.out
          rw [hy, hz]
          clear hy
          clear hz
          have HQ : Hid (FrQ u7 X [(t14, StBox 0 0 0 none 0 0), (t13, RBox none 0 0 0 0 none 0 0)] [fun W => FlM W th q ch hs, fun W => FlM W tb m cb xs, fun W => FlM W ta n ca zs]) := frq_perm HQ.out (by simp) (by have hn := HQ.out.nod; simp only [List.map_cons, List.map_nil, List.nodup_cons, List.mem_cons, List.not_mem_nil, or_false, not_false_iff, List.nodup_nil, and_true] at hn ⊢; omega) (by simp)
          have hfin := HS2ab.out X ta ca tb cb th ch t13 t14 HQ
          rw [hG.out, hA.out] at hfin
          simp only [Act.put, List.setIfInBounds_toArray, List.set_cons_zero, List.set_cons_succ] at hfin
          exact hfin
      have HS1ab : Hid (∀ (W : World) (ta : Option Addr) (ca : Nat) (tb : Option Addr) (cb : Nat) (t13 t14 : Nat), Hid (FrQ u7 W [(t14, StBox 0 0 0 none 0 0), (t13, RBox none 0 0 0 0 none 0 0)] [fun W => FlM W tb m cb xs, fun W => FlM W ta n ca zs]) → G 11 #[true, true, true, true, true, false, true, true, false, true, true, false, false, false, false, false, false, true, true, false, false, false] (Act.put (Act.put (Act.put (A0) (some 67) (.agg #[.slice ta n ca, .int .i64 r, .int .i64 c, .slice tb m cb])) (some 13) (.pointer (some ⟨t13, 0, none⟩))) (some 14) (.pointer (some ⟨t14, 0, none⟩))) W) := fun W ta ca tb cb t13 t14 HQ => by
        rw [hG.out, hA.out]
        simp only [Act.put, List.setIfInBounds_toArray, List.set_cons_zero, List.set_cons_succ]
        refine wpAnyH_ready (rs := [5]) (by kernel_rfl) (by simp) ?_
        refine AllReadyH.cons (o := _) rfl (fun K hK => ?_) AllReadyH.nil
        go_simp
        refine (HL5.out W HQ.out.bel).mono ?_
        rintro e X ⟨⟨th, ch, rfl, hh⟩, hb⟩
        have HQ := hid (HQ.out.call hb)
        have HQ := hid (HQ.out.add (g := fun W => FlM W th q ch hs) (kept_fl _ _ _ _) hh)
        clear hb
        go_wp2_with fail
        refine hK.out _ _ (HKT.out _ HQ.out.bel) (fun hHeld => ?_)
        clear hK K
        try simp only [List.setIfInBounds_toArray, List.set_cons_zero, List.set_cons_succ]
        have hfin := HS2ab.out X ta ca tb cb th ch t13 t14 HQ
        rw [hG.out, hA.out] at hfin
        simp only [Act.put, List.setIfInBounds_toArray, List.set_cons_zero, List.set_cons_succ] at hfin
        exact hfin
      clear HS4 HS3a HS3b HS2ab
      have HS2 : Hid (∀ (W : World) (ta : Option Addr) (ca : Nat) (tb : Option Addr) (cb : Nat) (th : Option Addr) (ch : Nat) , Hid (FrQ u7 W [] [fun W => FlM W th q ch hs, fun W => FlM W tb m cb xs, fun W => FlM W ta n ca zs]) → G 12 #[true, true, true, true, true, true, true, true, false, true, true, false, false, false, false, false, false, false, false, false, false, false] (Act.put (Act.put (A0) (some 67) (.agg #[.slice ta n ca, .int .i64 r, .int .i64 c, .slice tb m cb])) (some 70) (.slice th q ch)) W) := fun W ta ca tb cb th ch HQ => by
        rw [hG.out, hA.out]
        simp only [Act.put, List.setIfInBounds_toArray, List.set_cons_zero, List.set_cons_succ]
        refine wpAnyH_ready (rs := [8, 17, 18]) (by kernel_rfl) (by simp) ?_
        refine AllReadyH.cons (o := _) rfl (fun K hK => ?_) (AllReadyH.cons (o := _) rfl (fun K hK => ?_) (AllReadyH.cons (o := _) rfl (fun K hK => ?_) AllReadyH.nil))
        · go_simp
          refine (HFR2.out W).mono ?_
          rintro e X ⟨rfl, hb⟩
          have HQ := hid (HQ.out.call hb)
          clear hb
          go_wp2_with fail
          refine hK.out _ _ (HKT.out _ HQ.out.bel) (fun hHeld => ?_)
          clear hK K
          try simp only [List.setIfInBounds_toArray, List.set_cons_zero, List.set_cons_succ]
          have hfin := HS3.out X ta ca tb cb th ch HQ
          rw [hG.out, hA.out] at hfin
          simp only [Act.put, List.setIfInBounds_toArray, List.set_cons_zero, List.set_cons_succ] at hfin
          exact hfin
        · go_simp
          go_wp2_with fail
          have HQ := hid (HQ.out.alloc (RBox none 0 0 0 0 none 0 0))
          refine hK.out _ _ (HKT.out _ HQ.out.bel) (fun hHeld => ?_)
          clear hK K
          try simp only [List.setIfInBounds_toArray, List.set_cons_zero, List.set_cons_succ]
          obtain ⟨X, hX, HQ⟩ := frq_name HQ.out
          obtain ⟨t13, ht13, HQ⟩ := frq_head HQ.out
          have hy := hX.out
          unfold RBox at hy
          have hz := ht13.out
          rw [hy, hz]
          clear hy
          clear hz
          have HQ : Hid (FrQ u7 X [(t13, RBox none 0 0 0 0 none 0 0)] [fun W => FlM W th q ch hs, fun W => FlM W tb m cb xs, fun W => FlM W ta n ca zs]) := frq_perm HQ.out (by simp) (by simp) (by simp)
          have hfin := HS2a.out X ta ca tb cb th ch t13 HQ
          rw [hG.out, hA.out] at hfin
          simp only [Act.put, List.setIfInBounds_toArray, List.set_cons_zero, List.set_cons_succ] at hfin
          exact hfin
        · go_simp
          go_wp2_with fail
          have HQ := hid (HQ.out.alloc (StBox 0 0 0 none 0 0))
          refine hK.out _ _ (HKT.out _ HQ.out.bel) (fun hHeld => ?_)
          clear hK K
          try simp only [List.setIfInBounds_toArray, List.set_cons_zero, List.set_cons_succ]
          obtain ⟨X, hX, HQ⟩ := frq_name HQ.out
          obtain ⟨t14, ht14, HQ⟩ := frq_head HQ.out
          have hy := hX.out
          unfold StBox at hy
          have hz := ht14.out
          rw [hy, hz]
          clear hy
          clear hz
          have HQ : Hid (FrQ u7 X [(t14, StBox 0 0 0 none 0 0)] [fun W => FlM W th q ch hs, fun W => FlM W tb m cb xs, fun W => FlM W ta n ca zs]) := frq_perm HQ.out (by simp) (by simp) (by simp)
          have hfin := HS2b.out X ta ca tb cb th ch t14 HQ
          rw [hG.out, hA.out] at hfin
          simp only [Act.put, List.setIfInBounds_toArray, List.set_cons_zero, List.set_cons_succ] at hfin
          exact hfin
      have HS1a : Hid (∀ (W : World) (ta : Option Addr) (ca : Nat) (tb : Option Addr) (cb : Nat) (t13 : Nat), Hid (FrQ u7 W [(t13, RBox none 0 0 0 0 none 0 0)] [fun W => FlM W tb m cb xs, fun W => FlM W ta n ca zs]) → G 12 #[true, true, true, true, true, false, true, true, false, true, true, false, false, false, false, false, false, true, false, false, false, false] (Act.put (Act.put (A0) (some 67) (.agg #[.slice ta n ca, .int .i64 r, .int .i64 c, .slice tb m cb])) (some 13) (.pointer (some ⟨t13, 0, none⟩))) W) := fun W ta ca tb cb t13 HQ => by
        rw [hG.out, hA.out]
        simp only [Act.put, List.setIfInBounds_toArray, List.set_cons_zero, List.set_cons_succ]
        refine wpAnyH_ready (rs := [5, 18]) (by kernel_rfl) (by simp) ?_
        refine AllReadyH.cons (o := _) rfl (fun K hK => ?_) (AllReadyH.cons (o := _) rfl (fun K hK => ?_) AllReadyH.nil)
        · go_simp
          refine (HL5.out W HQ.out.bel).mono ?_
          rintro e X ⟨⟨th, ch, rfl, hh⟩, hb⟩
          have HQ := hid (HQ.out.call hb)
          have HQ := hid (HQ.out.add (g := fun W => FlM W th q ch hs) (kept_fl _ _ _ _) hh)
          clear hb
          go_wp2_with fail
          refine hK.out _ _ (HKT.out _ HQ.out.bel) (fun hHeld => ?_)
          clear hK K
          try simp only [List.setIfInBounds_toArray, List.set_cons_zero, List.set_cons_succ]
          have hfin := HS2a.out X ta ca tb cb th ch t13 HQ
          rw [hG.out, hA.out] at hfin
          simp only [Act.put, List.setIfInBounds_toArray, List.set_cons_zero, List.set_cons_succ] at hfin
          exact hfin
        · go_simp
          go_wp2_with fail
          have HQ := hid (HQ.out.alloc (StBox 0 0 0 none 0 0))
          refine hK.out _ _ (HKT.out _ HQ.out.bel) (fun hHeld => ?_)
          clear hK K
          try simp only [List.setIfInBounds_toArray, List.set_cons_zero, List.set_cons_succ]
          obtain ⟨X, hX, HQ⟩ := frq_name HQ.out
          obtain ⟨t14, ht14, HQ⟩ := frq_head HQ.out
          have hy := hX.out
          unfold StBox at hy
          have hz := ht14.out
          rw [hy, hz]
          clear hy
          clear hz
          have HQ : Hid (FrQ u7 X [(t14, StBox 0 0 0 none 0 0), (t13, RBox none 0 0 0 0 none 0 0)] [fun W => FlM W tb m cb xs, fun W => FlM W ta n ca zs]) := frq_perm HQ.out (by simp) (by have hn := HQ.out.nod; simp only [List.map_cons, List.map_nil, List.nodup_cons, List.mem_cons, List.not_mem_nil, or_false, not_false_iff, List.nodup_nil, and_true] at hn ⊢; omega) (by simp)
          have hfin := HS1ab.out X ta ca tb cb t13 t14 HQ
          rw [hG.out, hA.out] at hfin
          simp only [Act.put, List.setIfInBounds_toArray, List.set_cons_zero, List.set_cons_succ] at hfin
          exact hfin
      have HS1b : Hid (∀ (W : World) (ta : Option Addr) (ca : Nat) (tb : Option Addr) (cb : Nat) (t14 : Nat), Hid (FrQ u7 W [(t14, StBox 0 0 0 none 0 0)] [fun W => FlM W tb m cb xs, fun W => FlM W ta n ca zs]) → G 12 #[true, true, true, true, true, false, true, true, false, true, true, false, false, false, false, false, false, false, true, false, false, false] (Act.put (Act.put (A0) (some 67) (.agg #[.slice ta n ca, .int .i64 r, .int .i64 c, .slice tb m cb])) (some 14) (.pointer (some ⟨t14, 0, none⟩))) W) := fun W ta ca tb cb t14 HQ => by
        rw [hG.out, hA.out]
        simp only [Act.put, List.setIfInBounds_toArray, List.set_cons_zero, List.set_cons_succ]
        refine wpAnyH_ready (rs := [5, 17]) (by kernel_rfl) (by simp) ?_
        refine AllReadyH.cons (o := _) rfl (fun K hK => ?_) (AllReadyH.cons (o := _) rfl (fun K hK => ?_) AllReadyH.nil)
        · go_simp
          refine (HL5.out W HQ.out.bel).mono ?_
          rintro e X ⟨⟨th, ch, rfl, hh⟩, hb⟩
          have HQ := hid (HQ.out.call hb)
          have HQ := hid (HQ.out.add (g := fun W => FlM W th q ch hs) (kept_fl _ _ _ _) hh)
          clear hb
          go_wp2_with fail
          refine hK.out _ _ (HKT.out _ HQ.out.bel) (fun hHeld => ?_)
          clear hK K
          try simp only [List.setIfInBounds_toArray, List.set_cons_zero, List.set_cons_succ]
          have hfin := HS2b.out X ta ca tb cb th ch t14 HQ
          rw [hG.out, hA.out] at hfin
          simp only [Act.put, List.setIfInBounds_toArray, List.set_cons_zero, List.set_cons_succ] at hfin
          exact hfin
        · go_simp
          go_wp2_with fail
          have HQ := hid (HQ.out.alloc (RBox none 0 0 0 0 none 0 0))
          refine hK.out _ _ (HKT.out _ HQ.out.bel) (fun hHeld => ?_)
          clear hK K
          try simp only [List.setIfInBounds_toArray, List.set_cons_zero, List.set_cons_succ]
          obtain ⟨X, hX, HQ⟩ := frq_name HQ.out
          obtain ⟨t13, ht13, HQ⟩ := frq_head HQ.out
          have hy := hX.out
          unfold RBox at hy
          have hz := ht13.out
          rw [hy, hz]
          clear hy
          clear hz
          have HQ : Hid (FrQ u7 X [(t14, StBox 0 0 0 none 0 0), (t13, RBox none 0 0 0 0 none 0 0)] [fun W => FlM W tb m cb xs, fun W => FlM W ta n ca zs]) := frq_perm HQ.out (by simp) (by have hn := HQ.out.nod; simp only [List.map_cons, List.map_nil, List.nodup_cons, List.mem_cons, List.not_mem_nil, or_false, not_false_iff, List.nodup_nil, and_true] at hn ⊢; omega) (by simp)
          have hfin := HS1ab.out X ta ca tb cb t13 t14 HQ
          rw [hG.out, hA.out] at hfin
          simp only [Act.put, List.setIfInBounds_toArray, List.set_cons_zero, List.set_cons_succ] at hfin
          exact hfin
      have HS0ab : Hid (∀ (W : World) (t13 t14 : Nat), Hid (FrQ u7 W [(t14, StBox 0 0 0 none 0 0), (t13, RBox none 0 0 0 0 none 0 0)] []) → G 12 #[true, true, false, true, true, false, true, true, false, true, true, false, false, false, false, false, false, true, true, false, false, false] (Act.put (Act.put (A0) (some 13) (.pointer (some ⟨t13, 0, none⟩))) (some 14) (.pointer (some ⟨t14, 0, none⟩))) W) := fun W t13 t14 HQ => by
        rw [hG.out, hA.out]
        simp only [Act.put, List.setIfInBounds_toArray, List.set_cons_zero, List.set_cons_succ]
        refine wpAnyH_ready (rs := [2]) (by kernel_rfl) (by simp) ?_
        refine AllReadyH.cons (o := _) rfl (fun K hK => ?_) AllReadyH.nil
        go_simp
        refine (HOF5.out W HQ.out.bel).mono ?_
        rintro e X ⟨⟨ta, ca, tb, cb, rfl, hf1, hf2⟩, hb⟩
        have HQ := hid (HQ.out.call hb)
        have HQ := hid (HQ.out.add (g := fun W => FlM W ta n ca zs) (kept_fl _ _ _ _) hf1)
        have HQ := hid (HQ.out.add (g := fun W => FlM W tb m cb xs) (kept_fl _ _ _ _) hf2)
        clear hb
        go_wp2_with fail
        refine hK.out _ _ (HKT.out _ HQ.out.bel) (fun hHeld => ?_)
        clear hK K
        try simp only [List.setIfInBounds_toArray, List.set_cons_zero, List.set_cons_succ]
        have hfin := HS1ab.out X ta ca tb cb t13 t14 HQ
        rw [hG.out, hA.out] at hfin
        simp only [Act.put, List.setIfInBounds_toArray, List.set_cons_zero, List.set_cons_succ] at hfin
        exact hfin
      clear HS3 HS2a HS2b HS1ab
      have HS1 : Hid (∀ (W : World) (ta : Option Addr) (ca : Nat) (tb : Option Addr) (cb : Nat) , Hid (FrQ u7 W [] [fun W => FlM W tb m cb xs, fun W => FlM W ta n ca zs]) → G 13 #[true, true, true, true, true, false, true, true, false, true, true, false, false, false, false, false, false, false, false, false, false, false] (Act.put (A0) (some 67) (.agg #[.slice ta n ca, .int .i64 r, .int .i64 c, .slice tb m cb])) W) := fun W ta ca tb cb HQ => by
        rw [hG.out, hA.out]
        simp only [Act.put, List.setIfInBounds_toArray, List.set_cons_zero, List.set_cons_succ]
        refine wpAnyH_ready (rs := [5, 17, 18]) (by kernel_rfl) (by simp) ?_
        refine AllReadyH.cons (o := _) rfl (fun K hK => ?_) (AllReadyH.cons (o := _) rfl (fun K hK => ?_) (AllReadyH.cons (o := _) rfl (fun K hK => ?_) AllReadyH.nil))
        · go_simp
          refine (HL5.out W HQ.out.bel).mono ?_
          rintro e X ⟨⟨th, ch, rfl, hh⟩, hb⟩
          have HQ := hid (HQ.out.call hb)
          have HQ := hid (HQ.out.add (g := fun W => FlM W th q ch hs) (kept_fl _ _ _ _) hh)
          clear hb
          go_wp2_with fail
          refine hK.out _ _ (HKT.out _ HQ.out.bel) (fun hHeld => ?_)
          clear hK K
          try simp only [List.setIfInBounds_toArray, List.set_cons_zero, List.set_cons_succ]
          have hfin := HS2.out X ta ca tb cb th ch HQ
          rw [hG.out, hA.out] at hfin
          simp only [Act.put, List.setIfInBounds_toArray, List.set_cons_zero, List.set_cons_succ] at hfin
          exact hfin
        · go_simp
          go_wp2_with fail
          have HQ := hid (HQ.out.alloc (RBox none 0 0 0 0 none 0 0))
          refine hK.out _ _ (HKT.out _ HQ.out.bel) (fun hHeld => ?_)
          clear hK K
          try simp only [List.setIfInBounds_toArray, List.set_cons_zero, List.set_cons_succ]
          obtain ⟨X, hX, HQ⟩ := frq_name HQ.out
          obtain ⟨t13, ht13, HQ⟩ := frq_head HQ.out
          have hy := hX.out
          unfold RBox at hy
          have hz := ht13.out
          rw [hy, hz]
          clear hy
          clear hz
          have HQ : Hid (FrQ u7 X [(t13, RBox none 0 0 0 0 none 0 0)] [fun W => FlM W tb m cb xs, fun W => FlM W ta n ca zs]) := frq_perm HQ.out (by simp) (by simp) (by simp)
          have hfin := HS1a.out X ta ca tb cb t13 HQ
          rw [hG.out, hA.out] at hfin
          simp only [Act.put, List.setIfInBounds_toArray, List.set_cons_zero, List.set_cons_succ] at hfin
          exact hfin
        · go_simp
          go_wp2_with fail
          have HQ := hid (HQ.out.alloc (StBox 0 0 0 none 0 0))
          refine hK.out _ _ (HKT.out _ HQ.out.bel) (fun hHeld => ?_)
          clear hK K
          try simp only [List.setIfInBounds_toArray, List.set_cons_zero, List.set_cons_succ]
          obtain ⟨X, hX, HQ⟩ := frq_name HQ.out
          obtain ⟨t14, ht14, HQ⟩ := frq_head HQ.out
          have hy := hX.out
          unfold StBox at hy
          have hz := ht14.out
          rw [hy, hz]
          clear hy
          clear hz
          have HQ : Hid (FrQ u7 X [(t14, StBox 0 0 0 none 0 0)] [fun W => FlM W tb m cb xs, fun W => FlM W ta n ca zs]) := frq_perm HQ.out (by simp) (by simp) (by simp)
          have hfin := HS1b.out X ta ca tb cb t14 HQ
          rw [hG.out, hA.out] at hfin
          simp only [Act.put, List.setIfInBounds_toArray, List.set_cons_zero, List.set_cons_succ] at hfin
          exact hfin
      have HS0a : Hid (∀ (W : World) (t13 : Nat), Hid (FrQ u7 W [(t13, RBox none 0 0 0 0 none 0 0)] []) → G 13 #[true, true, false, true, true, false, true, true, false, true, true, false, false, false, false, false, false, true, false, false, false, false] (Act.put (A0) (some 13) (.pointer (some ⟨t13, 0, none⟩))) W) := fun W t13 HQ => by
        rw [hG.out, hA.out]
        simp only [Act.put, List.setIfInBounds_toArray, List.set_cons_zero, List.set_cons_succ]
        refine wpAnyH_ready (rs := [2, 18]) (by kernel_rfl) (by simp) ?_
        refine AllReadyH.cons (o := _) rfl (fun K hK => ?_) (AllReadyH.cons (o := _) rfl (fun K hK => ?_) AllReadyH.nil)
        · go_simp
          refine (HOF5.out W HQ.out.bel).mono ?_
          rintro e X ⟨⟨ta, ca, tb, cb, rfl, hf1, hf2⟩, hb⟩
          have HQ := hid (HQ.out.call hb)
          have HQ := hid (HQ.out.add (g := fun W => FlM W ta n ca zs) (kept_fl _ _ _ _) hf1)
          have HQ := hid (HQ.out.add (g := fun W => FlM W tb m cb xs) (kept_fl _ _ _ _) hf2)
          clear hb
          go_wp2_with fail
          refine hK.out _ _ (HKT.out _ HQ.out.bel) (fun hHeld => ?_)
          clear hK K
          try simp only [List.setIfInBounds_toArray, List.set_cons_zero, List.set_cons_succ]
          have hfin := HS1a.out X ta ca tb cb t13 HQ
          rw [hG.out, hA.out] at hfin
          simp only [Act.put, List.setIfInBounds_toArray, List.set_cons_zero, List.set_cons_succ] at hfin
          exact hfin
        · go_simp
          go_wp2_with fail
          have HQ := hid (HQ.out.alloc (StBox 0 0 0 none 0 0))
          refine hK.out _ _ (HKT.out _ HQ.out.bel) (fun hHeld => ?_)
          clear hK K
          try simp only [List.setIfInBounds_toArray, List.set_cons_zero, List.set_cons_succ]
          obtain ⟨X, hX, HQ⟩ := frq_name HQ.out
          obtain ⟨t14, ht14, HQ⟩ := frq_head HQ.out
          have hy := hX.out
          unfold StBox at hy
          have hz := ht14.out
          rw [hy, hz]
          clear hy
          clear hz
          have HQ : Hid (FrQ u7 X [(t14, StBox 0 0 0 none 0 0), (t13, RBox none 0 0 0 0 none 0 0)] []) := frq_perm HQ.out (by simp) (by have hn := HQ.out.nod; simp only [List.map_cons, List.map_nil, List.nodup_cons, List.mem_cons, List.not_mem_nil, or_false, not_false_iff, List.nodup_nil, and_true] at hn ⊢; omega) (by simp)
          have hfin := HS0ab.out X t13 t14 HQ
          rw [hG.out, hA.out] at hfin
          simp only [Act.put, List.setIfInBounds_toArray, List.set_cons_zero, List.set_cons_succ] at hfin
          exact hfin
      have HS0b : Hid (∀ (W : World) (t14 : Nat), Hid (FrQ u7 W [(t14, StBox 0 0 0 none 0 0)] []) → G 13 #[true, true, false, true, true, false, true, true, false, true, true, false, false, false, false, false, false, false, true, false, false, false] (Act.put (A0) (some 14) (.pointer (some ⟨t14, 0, none⟩))) W) := fun W t14 HQ => by
        rw [hG.out, hA.out]
        simp only [Act.put, List.setIfInBounds_toArray, List.set_cons_zero, List.set_cons_succ]
        refine wpAnyH_ready (rs := [2, 17]) (by kernel_rfl) (by simp) ?_
        refine AllReadyH.cons (o := _) rfl (fun K hK => ?_) (AllReadyH.cons (o := _) rfl (fun K hK => ?_) AllReadyH.nil)
        · go_simp
          refine (HOF5.out W HQ.out.bel).mono ?_
          rintro e X ⟨⟨ta, ca, tb, cb, rfl, hf1, hf2⟩, hb⟩
          have HQ := hid (HQ.out.call hb)
          have HQ := hid (HQ.out.add (g := fun W => FlM W ta n ca zs) (kept_fl _ _ _ _) hf1)
          have HQ := hid (HQ.out.add (g := fun W => FlM W tb m cb xs) (kept_fl _ _ _ _) hf2)
          clear hb
          go_wp2_with fail
          refine hK.out _ _ (HKT.out _ HQ.out.bel) (fun hHeld => ?_)
          clear hK K
          try simp only [List.setIfInBounds_toArray, List.set_cons_zero, List.set_cons_succ]
          have hfin := HS1b.out X ta ca tb cb t14 HQ
          rw [hG.out, hA.out] at hfin
          simp only [Act.put, List.setIfInBounds_toArray, List.set_cons_zero, List.set_cons_succ] at hfin
          exact hfin
        · go_simp
          go_wp2_with fail
          have HQ := hid (HQ.out.alloc (RBox none 0 0 0 0 none 0 0))
          refine hK.out _ _ (HKT.out _ HQ.out.bel) (fun hHeld => ?_)
          clear hK K
          try simp only [List.setIfInBounds_toArray, List.set_cons_zero, List.set_cons_succ]
          obtain ⟨X, hX, HQ⟩ := frq_name HQ.out
          obtain ⟨t13, ht13, HQ⟩ := frq_head HQ.out
          have hy := hX.out
          unfold RBox at hy
          have hz := ht13.out
          rw [hy, hz]
          clear hy
          clear hz
          have HQ : Hid (FrQ u7 X [(t14, StBox 0 0 0 none 0 0), (t13, RBox none 0 0 0 0 none 0 0)] []) := frq_perm HQ.out (by simp) (by have hn := HQ.out.nod; simp only [List.map_cons, List.map_nil, List.nodup_cons, List.mem_cons, List.not_mem_nil, or_false, not_false_iff, List.nodup_nil, and_true] at hn ⊢; omega) (by simp)
          have hfin := HS0ab.out X t13 t14 HQ
          rw [hG.out, hA.out] at hfin
          simp only [Act.put, List.setIfInBounds_toArray, List.set_cons_zero, List.set_cons_succ] at hfin
          exact hfin
      clear HS2 HS1a HS1b HS0ab
      have HS0 : Hid (∀ (W : World) , Hid (FrQ u7 W [] []) → G 14 #[true, true, false, true, true, false, true, true, false, true, true, false, false, false, false, false, false, false, false, false, false, false] (A0) W) := fun W  HQ => by
        rw [hG.out, hA.out]
        refine wpAnyH_ready (rs := [2, 17, 18]) (by kernel_rfl) (by simp) ?_
        refine AllReadyH.cons (o := _) rfl (fun K hK => ?_) (AllReadyH.cons (o := _) rfl (fun K hK => ?_) (AllReadyH.cons (o := _) rfl (fun K hK => ?_) AllReadyH.nil))
        · go_simp
          refine (HOF5.out W HQ.out.bel).mono ?_
          rintro e X ⟨⟨ta, ca, tb, cb, rfl, hf1, hf2⟩, hb⟩
          have HQ := hid (HQ.out.call hb)
          have HQ := hid (HQ.out.add (g := fun W => FlM W ta n ca zs) (kept_fl _ _ _ _) hf1)
          have HQ := hid (HQ.out.add (g := fun W => FlM W tb m cb xs) (kept_fl _ _ _ _) hf2)
          clear hb
          go_wp2_with fail
          refine hK.out _ _ (HKT.out _ HQ.out.bel) (fun hHeld => ?_)
          clear hK K
          try simp only [List.setIfInBounds_toArray, List.set_cons_zero, List.set_cons_succ]
          have hfin := HS1.out X ta ca tb cb HQ
          rw [hG.out, hA.out] at hfin
          simp only [Act.put, List.setIfInBounds_toArray, List.set_cons_zero, List.set_cons_succ] at hfin
          exact hfin
        · go_simp
          go_wp2_with fail
          have HQ := hid (HQ.out.alloc (RBox none 0 0 0 0 none 0 0))
          refine hK.out _ _ (HKT.out _ HQ.out.bel) (fun hHeld => ?_)
          clear hK K
          try simp only [List.setIfInBounds_toArray, List.set_cons_zero, List.set_cons_succ]
          obtain ⟨X, hX, HQ⟩ := frq_name HQ.out
          obtain ⟨t13, ht13, HQ⟩ := frq_head HQ.out
          have hy := hX.out
          unfold RBox at hy
          have hz := ht13.out
          rw [hy, hz]
          clear hy
          clear hz
          have HQ : Hid (FrQ u7 X [(t13, RBox none 0 0 0 0 none 0 0)] []) := frq_perm HQ.out (by simp) (by simp) (by simp)
          have hfin := HS0a.out X t13 HQ
          rw [hG.out, hA.out] at hfin
          simp only [Act.put, List.setIfInBounds_toArray, List.set_cons_zero, List.set_cons_succ] at hfin
          exact hfin
        · go_simp
          go_wp2_with fail
          have HQ := hid (HQ.out.alloc (StBox 0 0 0 none 0 0))
          refine hK.out _ _ (HKT.out _ HQ.out.bel) (fun hHeld => ?_)
          clear hK K
          try simp only [List.setIfInBounds_toArray, List.set_cons_zero, List.set_cons_succ]
          obtain ⟨X, hX, HQ⟩ := frq_name HQ.out
          obtain ⟨t14, ht14, HQ⟩ := frq_head HQ.out
          have hy := hX.out
          unfold StBox at hy
          have hz := ht14.out
          rw [hy, hz]
          clear hy
          clear hz
          have HQ : Hid (FrQ u7 X [(t14, StBox 0 0 0 none 0 0)] []) := frq_perm HQ.out (by simp) (by simp) (by simp)
          have hfin := HS0b.out X t14 HQ
          rw [hG.out, hA.out] at hfin
          simp only [Act.put, List.setIfInBounds_toArray, List.set_cons_zero, List.set_cons_succ] at hfin
          exact hfin
      exact HS0.out _ HQ0
  · rintro a' u8 ⟨ta, ca, tb, cb, th, ch, t13, t14, uxu, k1u, k2u, r1u, c1u, ulu, k3u, k4u, Yu, Au, S1u, ugu, k5u, k6u, rfl, hb, hh1, hh2, hup⟩
    simp only [Act.put, List.setIfInBounds_toArray, List.set_cons_zero, List.set_cons_succ]
    have q8 : Hid (Below w.heap.size w u8 ∧ u8.heap[p4]? = some (B6Box r c sm m km) ∧ u8.heap[p5]? = some (R6Box wh q wk R Z)) := ⟨q7.out.1.trans (hb.mono q7.out.1.size), blkM q7.out.2.1 hb, blkM q7.out.2.2 hb⟩
    have Ht13 := hid hh1
    have Ht14 := hid hh2
    have HUKu := hid hup
    clear hb hh1 hh2 hup HOF5 HL5 HKT HQ0
    have HOF5 := hid (fun W (hW : Below u8.heap.size u8 W) => HOF.out W (q8.out.1.trans (hW.mono q8.out.1.size)))
    have HL5 := hid (fun W (hW : Below u8.heap.size u8 W) => HL2.out W (q8.out.1.trans (hW.mono q8.out.1.size)))
    have HKT : Hid (∀ W, Below u8.heap.size u8 W → (W.cell? ⟨p4, 0, none⟩ = some (.int .i64 r) ∧ W.cell? ⟨p4, 1, none⟩ = some (.int .i64 c) ∧ W.cell? ⟨p4, 2, none⟩ = some (.slice sm m km)) ∧ (W.cell? ⟨p5, 0, none⟩ = some (.slice wh q wk) ∧ W.cell? ⟨p5, 1, none⟩ = some (.int .u64 R) ∧ W.cell? ⟨p5, 2, none⟩ = some (.int .u64 Z))) := fun W hW => ⟨b6cells_of (blkM q8.out.2.1 hW), r6cells_of (blkM q8.out.2.2 hW)⟩
    have HQ0 : Hid (FrQ u8 u8.drew [] []) := (FrQ.start u8).drew
    go_wp2_with fail
    refine region_merge2 (fun a0 a' w' => ∃ (ta : Option Addr) (ca : Nat) (tb : Option Addr) (cb : Nat) (th : Option Addr) (ch : Nat) (t15 t16 : Nat) (uxv : Option Addr) (k1v k2v : Nat) (r1v c1v : Int) (ulv : Option Addr) (k3v k4v Yv Av S1v : Nat) (ugv : Option Addr) (k5v k6v : Nat), a' = Act.put (Act.put (Act.put (Act.put (Act.put (Act.put (Act.put (Act.put (Act.put (Act.put (Act.put (Act.put (Act.put (Act.put (Act.put (Act.put (Act.put (Act.put (Act.put (Act.put (a0) (some 82) (.slice sx n kx)) (some 83) (.agg #[.int .i64 r, .int .i64 c, .slice sm m km])) (some 85) (.pointer (some ⟨p5, 0, none⟩))) (some 86) (.slice wh q wk)) (some 88) (.pointer (some ⟨p5, 1, none⟩))) (some 89) (.int .u64 R)) (some 91) (.pointer (some ⟨p5, 2, none⟩))) (some 92) (.int .u64 Z)) (some 84) (.agg #[.slice ta n ca, .int .i64 r, .int .i64 c, .slice tb m cb])) (some 87) (.slice th q ch)) (some 90) (.float .f64 R)) (some 93) (.float .f64 Z)) (some 94) (.tuple #[.agg #[.slice uxv k1v k2v, .int .i64 r1v, .int .i64 c1v, .slice ulv k3v k4v], .agg #[.float .f64 Yv, .float .f64 Av, .float .f64 S1v, .slice ugv k5v k6v], .int .i64 EE])) (some 81) (.tuple #[.agg #[.slice uxv k1v k2v, .int .i64 r1v, .int .i64 c1v, .slice ulv k3v k4v], .agg #[.float .f64 Yv, .float .f64 Av, .float .f64 S1v, .slice ugv k5v k6v], .int .i64 EE])) (some 95) (.agg #[.slice uxv k1v k2v, .int .i64 r1v, .int .i64 c1v, .slice ulv k3v k4v])) (some 96) (.agg #[.float .f64 Yv, .float .f64 Av, .float .f64 S1v, .slice ugv k5v k6v])) (some 97) (.int .i64 EE)) (some 15) (.pointer (some ⟨t15, 0, none⟩))) (some 16) (.pointer (some ⟨t16, 0, none⟩))) (some 12) (.int .i64 EE) ∧ Below u8.heap.size u8 w' ∧ w'.heap[t15]? = some (RBox uxv k1v k2v r1v c1v ulv k3v k4v) ∧ w'.heap[t16]? = some (StBox Yv Av S1v ugv k5v k6v) ∧ UpK EE f hs zs n R Z w' uxv k1v k2v r1v c1v ulv k3v k4v Yv Av S1v ugv k5v k6v) (fun HR => ?_) ?_
    · as_aux_lemma =>
        simp only [Act.put, List.setIfInBounds_toArray, List.set_cons_zero, List.set_cons_succ] at HR
        refine wp_region_held_drew (S := fun W => (W.cell? ⟨p4, 0, none⟩ = some (.int .i64 r) ∧ W.cell? ⟨p4, 1, none⟩ = some (.int .i64 c) ∧ W.cell? ⟨p4, 2, none⟩ = some (.slice sm m km)) ∧ (W.cell? ⟨p5, 0, none⟩ = some (.slice wh q wk) ∧ W.cell? ⟨p5, 1, none⟩ = some (.int .u64 R) ∧ W.cell? ⟨p5, 2, none⟩ = some (.int .u64 Z))) (by kernel_rfl) (HKT.out _ HQ0.out.bel) (fun hHeld => ?_)
        refine take_at 0 82 (.slice sx n kx) rfl rfl (by kernel_rfl) (by kernel_rfl) (by kernel_rfl) (fun _ _ _ h => h) (Or.inl ⟨by rfl, fun w hSw => by (try dsimp only at hSw); go_simp⟩) (by assumption) ?_
        simp only [Act.put, List.setIfInBounds_toArray, List.set_cons_zero, List.set_cons_succ]
        refine take_at 1 83 (.agg #[.int .i64 r, .int .i64 c, .slice sm m km]) rfl rfl (by kernel_rfl) (by kernel_rfl) (by kernel_rfl) (fun _ _ _ h => h) (Or.inl ⟨by rfl, fun w hSw => by (try dsimp only at hSw); go_simp⟩) (by assumption) ?_
        simp only [Act.put, List.setIfInBounds_toArray, List.set_cons_zero, List.set_cons_succ]
        refine take_at 3 85 (.pointer (some ⟨p5, 0, none⟩)) rfl rfl (by kernel_rfl) (by kernel_rfl) (by kernel_rfl) (fun _ _ _ h => h) (Or.inl ⟨by rfl, fun w hSw => by (try dsimp only at hSw); go_simp⟩) (by assumption) ?_
        simp only [Act.put, List.setIfInBounds_toArray, List.set_cons_zero, List.set_cons_succ]
        refine take_at 4 86 (.slice wh q wk) rfl rfl (by kernel_rfl) (by kernel_rfl) (by kernel_rfl) (fun _ _ _ h => h) (Or.inl ⟨by rfl, fun w hSw => by (try dsimp only at hSw); go_simp⟩) (by assumption) ?_
        simp only [Act.put, List.setIfInBounds_toArray, List.set_cons_zero, List.set_cons_succ]
        refine take_at 6 88 (.pointer (some ⟨p5, 1, none⟩)) rfl rfl (by kernel_rfl) (by kernel_rfl) (by kernel_rfl) (fun _ _ _ h => h) (Or.inl ⟨by rfl, fun w hSw => by (try dsimp only at hSw); go_simp⟩) (by assumption) ?_
        simp only [Act.put, List.setIfInBounds_toArray, List.set_cons_zero, List.set_cons_succ]
        refine take_at 7 89 (.int .u64 R) rfl rfl (by kernel_rfl) (by kernel_rfl) (by kernel_rfl) (fun _ _ _ h => h) (Or.inl ⟨by rfl, fun w hSw => by (try dsimp only at hSw); go_simp⟩) (by assumption) ?_
        simp only [Act.put, List.setIfInBounds_toArray, List.set_cons_zero, List.set_cons_succ]
        refine take_at 9 91 (.pointer (some ⟨p5, 2, none⟩)) rfl rfl (by kernel_rfl) (by kernel_rfl) (by kernel_rfl) (fun _ _ _ h => h) (Or.inl ⟨by rfl, fun w hSw => by (try dsimp only at hSw); go_simp⟩) (by assumption) ?_
        simp only [Act.put, List.setIfInBounds_toArray, List.set_cons_zero, List.set_cons_succ]
        refine take_at 10 92 (.int .u64 Z) rfl rfl (by kernel_rfl) (by kernel_rfl) (by kernel_rfl) (fun _ _ _ h => h) (Or.inl ⟨by rfl, fun w hSw => by (try dsimp only at hSw); go_simp⟩) (by assumption) ?_
        simp only [Act.put, List.setIfInBounds_toArray, List.set_cons_zero, List.set_cons_succ]
        refine dag_open (fun G A0 hG hA => ?_)
        have HS5ab : Hid (∀ (W : World) (ta : Option Addr) (ca : Nat) (tb : Option Addr) (cb : Nat) (th : Option Addr) (ch : Nat) (uxv : Option Addr) (k1v k2v : Nat) (r1v c1v : Int) (ulv : Option Addr) (k3v k4v Yv Av S1v : Nat) (ugv : Option Addr) (k5v k6v : Nat) (t15 t16 : Nat), Hid (FrQ u8 W [(t16, StBox 0 0 0 none 0 0), (t15, RBox none 0 0 0 0 none 0 0)] [fun _ => DjT uxv ulv ugv t16, fun _ => DjT uxv ulv ugv t15, fun W => UpK EE f hs zs n R Z W uxv k1v k2v r1v c1v ulv k3v k4v Yv Av S1v ugv k5v k6v, fun W => FlM W th q ch hs, fun W => FlM W tb m cb xs, fun W => FlM W ta n ca zs]) → G 3 #[true, true, true, true, true, true, true, true, true, true, true, true, true, true, true, true, true, true, true, false, false, false] (Act.put (Act.put (Act.put (Act.put (Act.put (Act.put (Act.put (Act.put (Act.put (Act.put (Act.put (A0) (some 84) (.agg #[.slice ta n ca, .int .i64 r, .int .i64 c, .slice tb m cb])) (some 87) (.slice th q ch)) (some 90) (.float .f64 R)) (some 93) (.float .f64 Z)) (some 94) (.tuple #[.agg #[.slice uxv k1v k2v, .int .i64 r1v, .int .i64 c1v, .slice ulv k3v k4v], .agg #[.float .f64 Yv, .float .f64 Av, .float .f64 S1v, .slice ugv k5v k6v], .int .i64 EE])) (some 81) (.tuple #[.agg #[.slice uxv k1v k2v, .int .i64 r1v, .int .i64 c1v, .slice ulv k3v k4v], .agg #[.float .f64 Yv, .float .f64 Av, .float .f64 S1v, .slice ugv k5v k6v], .int .i64 EE])) (some 95) (.agg #[.slice uxv k1v k2v, .int .i64 r1v, .int .i64 c1v, .slice ulv k3v k4v])) (some 96) (.agg #[.float .f64 Yv, .float .f64 Av, .float .f64 S1v, .slice ugv k5v k6v])) (some 97) (.int .i64 EE)) (some 15) (.pointer (some ⟨t15, 0, none⟩))) (some 16) (.pointer (some ⟨t16, 0, none⟩))) W) := fun W ta ca tb cb th ch uxv k1v k2v r1v c1v ulv k3v k4v Yv Av S1v ugv k5v k6v t15 t16 HQ => by
          rw [hG.out, hA.out]
          simp only [Act.put, List.setIfInBounds_toArray, List.set_cons_zero, List.set_cons_succ]
          have hB := HQ.out.get (g := fun W => UpK EE f hs zs n R Z W uxv k1v k2v r1v c1v ulv k3v k4v Yv Av S1v ugv k5v k6v) 2 rfl
          have hT := HQ.out.get (g := fun _ => DjT uxv ulv ugv t15) 1 rfl
          have hU := HQ.out.get (g := fun _ => DjT uxv ulv ugv t16) 0 rfl
          have z0 : W.heap[t16]? = some (StBox 0 0 0 none 0 0) := HQ.out.at 0 rfl
          have z1 : W.heap[t15]? = some (RBox none 0 0 0 0 none 0 0) := HQ.out.at 1 rfl
          have zb0 := (HQ.out.box (t16, StBox 0 0 0 none 0 0) (by simp)).2
          have zb1 := (HQ.out.box (t15, RBox none 0 0 0 0 none 0 0) (by simp)).2
          have hne : t15 ≠ t16 := by have hn := HQ.out.nod; simp only [List.map_cons, List.map_nil, List.nodup_cons, List.mem_cons, List.not_mem_nil, or_false, not_false_iff, List.nodup_nil, and_true] at hn; omega
          obtain ⟨c0, c1x, c2, c3⟩ := rcells_of z1
          have fz1 := rfrz z1
          have hbW := HQ.out.bel
          have b1 : Below u8.heap.size u8 ((((W.setCell ⟨t15, 0, none⟩ (.slice uxv k1v k2v)).setCell ⟨t15, 1, none⟩ (.int .i64 r1v)).setCell ⟨t15, 2, none⟩ (.int .i64 c1v)).setCell ⟨t15, 3, none⟩ (.slice ulv k3v k4v)) := rsto_below hbW zb1 _ _ _ _
          have y1 : ((((W.setCell ⟨t15, 0, none⟩ (.slice uxv k1v k2v)).setCell ⟨t15, 1, none⟩ (.int .i64 r1v)).setCell ⟨t15, 2, none⟩ (.int .i64 c1v)).setCell ⟨t15, 3, none⟩ (.slice ulv k3v k4v)).heap[t15]? = some (RBox uxv k1v k2v r1v c1v ulv k3v k4v) := set4 z1
          have y0 : ((((W.setCell ⟨t15, 0, none⟩ (.slice uxv k1v k2v)).setCell ⟨t15, 1, none⟩ (.int .i64 r1v)).setCell ⟨t15, 2, none⟩ (.int .i64 c1v)).setCell ⟨t15, 3, none⟩ (.slice ulv k3v k4v)).heap[t16]? = some (StBox 0 0 0 none 0 0) := by rw [set_keepM hne.symm, set_keepM hne.symm, set_keepM hne.symm, set_keepM hne.symm]; exact z0
          have hB1 := hB.sto hT (.slice uxv k1v k2v) (.int .i64 r1v) (.int .i64 c1v) (.slice ulv k3v k4v)
          refine wpAnyH_ready (rs := [19]) (by kernel_rfl) (by simp) ?_
          refine AllReadyH.cons (o := _) rfl (fun K hK => ?_) AllReadyH.nil
          go_simp
          go_wp2_with fail
          refine hK.out _ _ (HKT.out _ b1) (fun hHeld1 => ?_)
          clear hK K
          try simp only [List.setIfInBounds_toArray, List.set_cons_zero, List.set_cons_succ]
          obtain ⟨W1, hW1⟩ : ∃ t, Hid (((((W.setCell ⟨t15, 0, none⟩ (.slice uxv k1v k2v)).setCell ⟨t15, 1, none⟩ (.int .i64 r1v)).setCell ⟨t15, 2, none⟩ (.int .i64 c1v)).setCell ⟨t15, 3, none⟩ (.slice ulv k3v k4v)) = t) := ⟨_, rfl⟩
          rw [hW1.out] at b1 y1 y0 hB1
          try rw [hW1.out]
          obtain ⟨d0, d1, d2, d3⟩ := scells_of y0
          have fz2 := sfrz y0
          have b2 : Below u8.heap.size u8 ((((W1.setCell ⟨t16, 0, none⟩ (.float .f64 Yv)).setCell ⟨t16, 1, none⟩ (.float .f64 Av)).setCell ⟨t16, 2, none⟩ (.float .f64 S1v)).setCell ⟨t16, 3, none⟩ (.slice ugv k5v k6v)) := ssto_below b1 zb0 _ _ _ _
          have v0 : ((((W1.setCell ⟨t16, 0, none⟩ (.float .f64 Yv)).setCell ⟨t16, 1, none⟩ (.float .f64 Av)).setCell ⟨t16, 2, none⟩ (.float .f64 S1v)).setCell ⟨t16, 3, none⟩ (.slice ugv k5v k6v)).heap[t16]? = some (StBox Yv Av S1v ugv k5v k6v) := set4 y0
          have v1 : ((((W1.setCell ⟨t16, 0, none⟩ (.float .f64 Yv)).setCell ⟨t16, 1, none⟩ (.float .f64 Av)).setCell ⟨t16, 2, none⟩ (.float .f64 S1v)).setCell ⟨t16, 3, none⟩ (.slice ugv k5v k6v)).heap[t15]? = some (RBox uxv k1v k2v r1v c1v ulv k3v k4v) := by rw [set_keepM hne, set_keepM hne, set_keepM hne, set_keepM hne]; exact y1
          have hB2 := hB1.sto hU (.float .f64 Yv) (.float .f64 Av) (.float .f64 S1v) (.slice ugv k5v k6v)
          clear c0 c1x c2 c3 fz1
          have hst := fstoreR
          refine wpAnyH_ready (rs := [20]) (by kernel_rfl) (by simp) ?_
          refine AllReadyH.cons (o := _) rfl (fun K hK => ?_) AllReadyH.nil
          go_simp
          go_wp2_with fail
          refine hK.out _ _ (HKT.out _ b2) (fun hHeld2 => ?_)
          clear hK K hst
          try simp only [List.setIfInBounds_toArray, List.set_cons_zero, List.set_cons_succ]
          refine take_at 21 12 (.int .i64 EE) rfl rfl (by kernel_rfl) (by kernel_rfl) (by kernel_rfl) (fun _ _ _ h => h) (Or.inl ⟨by rfl, fun w hSw => by (try dsimp only at hSw); go_simp⟩) (by assumption) ?_
          simp only [Act.put, List.setIfInBounds_toArray, List.set_cons_zero, List.set_cons_succ]
          refine wpAnyH_done (by kernel_rfl) ?_ _
          exact HR.out _ _ ⟨ta, ca, tb, cb, th, ch, t15, t16, uxv, k1v, k2v, r1v, c1v, ulv, k3v, k4v, Yv, Av, S1v, ugv, k5v, k6v, rfl, b2, v1, v0, hB2⟩
        have HS5a : Hid (∀ (W : World) (ta : Option Addr) (ca : Nat) (tb : Option Addr) (cb : Nat) (th : Option Addr) (ch : Nat) (uxv : Option Addr) (k1v k2v : Nat) (r1v c1v : Int) (ulv : Option Addr) (k3v k4v Yv Av S1v : Nat) (ugv : Option Addr) (k5v k6v : Nat) (t15 : Nat), Hid (FrQ u8 W [(t15, RBox none 0 0 0 0 none 0 0)] [fun _ => DjT uxv ulv ugv t15, fun W => UpK EE f hs zs n R Z W uxv k1v k2v r1v c1v ulv k3v k4v Yv Av S1v ugv k5v k6v, fun W => FlM W th q ch hs, fun W => FlM W tb m cb xs, fun W => FlM W ta n ca zs]) → G 4 #[true, true, true, true, true, true, true, true, true, true, true, true, true, true, true, true, true, true, false, false, false, false] (Act.put (Act.put (Act.put (Act.put (Act.put (Act.put (Act.put (Act.put (Act.put (Act.put (A0) (some 84) (.agg #[.slice ta n ca, .int .i64 r, .int .i64 c, .slice tb m cb])) (some 87) (.slice th q ch)) (some 90) (.float .f64 R)) (some 93) (.float .f64 Z)) (some 94) (.tuple #[.agg #[.slice uxv k1v k2v, .int .i64 r1v, .int .i64 c1v, .slice ulv k3v k4v], .agg #[.float .f64 Yv, .float .f64 Av, .float .f64 S1v, .slice ugv k5v k6v], .int .i64 EE])) (some 81) (.tuple #[.agg #[.slice uxv k1v k2v, .int .i64 r1v, .int .i64 c1v, .slice ulv k3v k4v], .agg #[.float .f64 Yv, .float .f64 Av, .float .f64 S1v, .slice ugv k5v k6v], .int .i64 EE])) (some 95) (.agg #[.slice uxv k1v k2v, .int .i64 r1v, .int .i64 c1v, .slice ulv k3v k4v])) (some 96) (.agg #[.float .f64 Yv, .float .f64 Av, .float .f64 S1v, .slice ugv k5v k6v])) (some 97) (.int .i64 EE)) (some 15) (.pointer (some ⟨t15, 0, none⟩))) W) := fun W ta ca tb cb th ch uxv k1v k2v r1v c1v ulv k3v k4v Yv Av S1v ugv k5v k6v t15 HQ => by
          rw [hG.out, hA.out]
          simp only [Act.put, List.setIfInBounds_toArray, List.set_cons_zero, List.set_cons_succ]
          refine wpAnyH_ready (rs := [18]) (by kernel_rfl) (by simp) ?_
          refine AllReadyH.cons (o := _) rfl (fun K hK => ?_) AllReadyH.nil
          have hold := UpK.old (HQ.out.get (g := fun W => UpK EE f hs zs n R Z W uxv k1v k2v r1v c1v ulv k3v k4v Yv Av S1v ugv k5v k6v) 1 rfl)
          go_simp
          go_wp2_with fail
          have HQ := hid (HQ.out.alloc (StBox 0 0 0 none 0 0))
          refine hK.out _ _ (HKT.out _ HQ.out.bel) (fun hHeld => ?_)
          clear hK K
          try simp only [List.setIfInBounds_toArray, List.set_cons_zero, List.set_cons_succ]
          obtain ⟨X, hX, HQ⟩ := frq_name HQ.out
          obtain ⟨t16, ht16, HQ⟩ := frq_head HQ.out
          have hy := hX.out
          unfold StBox at hy
          have hz := ht16.out
          rw [hy, hz]
          clear hy
          have HQ := hid (HQ.out.add (g := fun _ => DjT uxv ulv ugv t16) (kept_djt _ _ _ _) (djt_old hold hz))
          clear hz
          have HQ : Hid (FrQ u8 X [(t16, StBox 0 0 0 none 0 0), (t15, RBox none 0 0 0 0 none 0 0)] [fun _ => DjT uxv ulv ugv t16, fun _ => DjT uxv ulv ugv t15, fun W => UpK EE f hs zs n R Z W uxv k1v k2v r1v c1v ulv k3v k4v Yv Av S1v ugv k5v k6v, fun W => FlM W th q ch hs, fun W => FlM W tb m cb xs, fun W => FlM W ta n ca zs]) := frq_perm HQ.out (by simp) (by have hn := HQ.out.nod; simp only [List.map_cons, List.map_nil, List.nodup_cons, List.mem_cons, List.not_mem_nil, or_false, not_false_iff, List.nodup_nil, and_true] at hn ⊢; omega) (by simp)
          have hfin := HS5ab.out X ta ca tb cb th ch uxv k1v k2v r1v c1v ulv k3v k4v Yv Av S1v ugv k5v k6v t15 t16 HQ
          rw [hG.out, hA.out] at hfin
          simp only [Act.put, List.setIfInBounds_toArray, List.set_cons_zero, List.set_cons_succ] at hfin
          exact hfin
        have HS5b : Hid (∀ (W : World) (ta : Option Addr) (ca : Nat) (tb : Option Addr) (cb : Nat) (th : Option Addr) (ch : Nat) (uxv : Option Addr) (k1v k2v : Nat) (r1v c1v : Int) (ulv : Option Addr) (k3v k4v Yv Av S1v : Nat) (ugv : Option Addr) (k5v k6v : Nat) (t16 : Nat), Hid (FrQ u8 W [(t16, StBox 0 0 0 none 0 0)] [fun _ => DjT uxv ulv ugv t16, fun W => UpK EE f hs zs n R Z W uxv k1v k2v r1v c1v ulv k3v k4v Yv Av S1v ugv k5v k6v, fun W => FlM W th q ch hs, fun W => FlM W tb m cb xs, fun W => FlM W ta n ca zs]) → G 4 #[true, true, true, true, true, true, true, true, true, true, true, true, true, true, true, true, true, false, true, false, false, false] (Act.put (Act.put (Act.put (Act.put (Act.put (Act.put (Act.put (Act.put (Act.put (Act.put (A0) (some 84) (.agg #[.slice ta n ca, .int .i64 r, .int .i64 c, .slice tb m cb])) (some 87) (.slice th q ch)) (some 90) (.float .f64 R)) (some 93) (.float .f64 Z)) (some 94) (.tuple #[.agg #[.slice uxv k1v k2v, .int .i64 r1v, .int .i64 c1v, .slice ulv k3v k4v], .agg #[.float .f64 Yv, .float .f64 Av, .float .f64 S1v, .slice ugv k5v k6v], .int .i64 EE])) (some 81) (.tuple #[.agg #[.slice uxv k1v k2v, .int .i64 r1v, .int .i64 c1v, .slice ulv k3v k4v], .agg #[.float .f64 Yv, .float .f64 Av, .float .f64 S1v, .slice ugv k5v k6v], .int .i64 EE])) (some 95) (.agg #[.slice uxv k1v k2v, .int .i64 r1v, .int .i64 c1v, .slice ulv k3v k4v])) (some 96) (.agg #[.float .f64 Yv, .float .f64 Av, .float .f64 S1v, .slice ugv k5v k6v])) (some 97) (.int .i64 EE)) (some 16) (.pointer (some ⟨t16, 0, none⟩))) W) := fun W ta ca tb cb th ch uxv k1v k2v r1v c1v ulv k3v k4v Yv Av S1v ugv k5v k6v t16 HQ => by
          rw [hG.out, hA.out]
          simp only [Act.put, List.setIfInBounds_toArray, List.set_cons_zero, List.set_cons_succ]
          refine wpAnyH_ready (rs := [17]) (by kernel_rfl) (by simp) ?_
          refine AllReadyH.cons (o := _) rfl (fun K hK => ?_) AllReadyH.nil
          have hold := UpK.old (HQ.out.get (g := fun W => UpK EE f hs zs n R Z W uxv k1v k2v r1v c1v ulv k3v k4v Yv Av S1v ugv k5v k6v) 1 rfl)
          go_simp
          go_wp2_with fail
          have HQ := hid (HQ.out.alloc (RBox none 0 0 0 0 none 0 0))
          refine hK.out _ _ (HKT.out _ HQ.out.bel) (fun hHeld => ?_)
          clear hK K
          try simp only [List.setIfInBounds_toArray, List.set_cons_zero, List.set_cons_succ]
          obtain ⟨X, hX, HQ⟩ := frq_name HQ.out
          obtain ⟨t15, ht15, HQ⟩ := frq_head HQ.out
          have hy := hX.out
          unfold RBox at hy
          have hz := ht15.out
          rw [hy, hz]
          clear hy
          have HQ := hid (HQ.out.add (g := fun _ => DjT uxv ulv ugv t15) (kept_djt _ _ _ _) (djt_old hold hz))
          clear hz
          have HQ : Hid (FrQ u8 X [(t16, StBox 0 0 0 none 0 0), (t15, RBox none 0 0 0 0 none 0 0)] [fun _ => DjT uxv ulv ugv t16, fun _ => DjT uxv ulv ugv t15, fun W => UpK EE f hs zs n R Z W uxv k1v k2v r1v c1v ulv k3v k4v Yv Av S1v ugv k5v k6v, fun W => FlM W th q ch hs, fun W => FlM W tb m cb xs, fun W => FlM W ta n ca zs]) := frq_perm HQ.out (by simp) (by have hn := HQ.out.nod; simp only [List.map_cons, List.map_nil, List.nodup_cons, List.mem_cons, List.not_mem_nil, or_false, not_false_iff, List.nodup_nil, and_true] at hn ⊢; omega) (by simp)
          have hfin := HS5ab.out X ta ca tb cb th ch uxv k1v k2v r1v c1v ulv k3v k4v Yv Av S1v ugv k5v k6v t15 t16 HQ
          rw [hG.out, hA.out] at hfin
          simp only [Act.put, List.setIfInBounds_toArray, List.set_cons_zero, List.set_cons_succ] at hfin
          exact hfin
        have HS4ab : Hid (∀ (W : World) (ta : Option Addr) (ca : Nat) (tb : Option Addr) (cb : Nat) (th : Option Addr) (ch : Nat) (t15 t16 : Nat), Hid (FrQ u8 W [(t16, StBox 0 0 0 none 0 0), (t15, RBox none 0 0 0 0 none 0 0)] [fun W => FlM W th q ch hs, fun W => FlM W tb m cb xs, fun W => FlM W ta n ca zs]) → G 8 #[true, true, true, true, true, true, true, true, true, true, true, true, false, false, false, false, false, true, true, false, false, false] (Act.put (Act.put (Act.put (Act.put (Act.put (Act.put (A0) (some 84) (.agg #[.slice ta n ca, .int .i64 r, .int .i64 c, .slice tb m cb])) (some 87) (.slice th q ch)) (some 90) (.float .f64 R)) (some 93) (.float .f64 Z)) (some 15) (.pointer (some ⟨t15, 0, none⟩))) (some 16) (.pointer (some ⟨t16, 0, none⟩))) W) := fun W ta ca tb cb th ch t15 t16 HQ => by
          rw [hG.out, hA.out]
          simp only [Act.put, List.setIfInBounds_toArray, List.set_cons_zero, List.set_cons_succ]
          refine wpAnyH_ready (rs := [12]) (by kernel_rfl) (by simp) ?_
          refine AllReadyH.cons (o := _) rfl (fun K hK => ?_) AllReadyH.nil
          go_simp
          refine (HUD.out W ta ca tb cb th ch (HQ.out.get (g := fun W => FlM W ta n ca zs) 2 rfl) (HQ.out.get (g := fun W => FlM W tb m cb xs) 1 rfl) (HQ.out.get (g := fun W => FlM W th q ch hs) 0 rfl)).mono ?_
          rintro e X ⟨⟨uxv, k1v, k2v, r1v, c1v, ulv, k3v, k4v, Yv, Av, S1v, ugv, k5v, k6v, rfl, hup, hnew⟩, hb⟩
          have hdT : DjT uxv ulv ugv t15 := djt_new hnew (HQ.out.at 1 rfl)
          have hdU : DjT uxv ulv ugv t16 := djt_new hnew (HQ.out.at 0 rfl)
          have HQ := hid (HQ.out.call hb)
          have HQ := hid (HQ.out.add (g := fun W => UpK EE f hs zs n R Z W uxv k1v k2v r1v c1v ulv k3v k4v Yv Av S1v ugv k5v k6v) (kept_upk _ _ _ _ _ _ _ _ _ _ _ _ _ _ _ _ _ _ _ _ _) hup)
          have HQ := hid (HQ.out.add (g := fun _ => DjT uxv ulv ugv t15) (kept_djt _ _ _ _) hdT)
          have HQ := hid (HQ.out.add (g := fun _ => DjT uxv ulv ugv t16) (kept_djt _ _ _ _) hdU)
          clear hb
          go_wp2_with fail
          refine hK.out _ _ (HKT.out _ HQ.out.bel) (fun hHeld => ?_)
          clear hK K
          try simp only [List.setIfInBounds_toArray, List.set_cons_zero, List.set_cons_succ]
          refine take_at 13 81 (.tuple #[.agg #[.slice uxv k1v k2v, .int .i64 r1v, .int .i64 c1v, .slice ulv k3v k4v], .agg #[.float .f64 Yv, .float .f64 Av, .float .f64 S1v, .slice ugv k5v k6v], .int .i64 EE]) rfl rfl (by kernel_rfl) (by kernel_rfl) (by kernel_rfl) (fun _ _ _ h => h) (Or.inl ⟨by rfl, fun w hSw => by (try dsimp only at hSw); go_simp⟩) (by assumption) ?_
          simp only [Act.put, List.setIfInBounds_toArray, List.set_cons_zero, List.set_cons_succ]
          refine take_at 14 95 (.agg #[.slice uxv k1v k2v, .int .i64 r1v, .int .i64 c1v, .slice ulv k3v k4v]) rfl rfl (by kernel_rfl) (by kernel_rfl) (by kernel_rfl) (fun _ _ _ h => h) (Or.inl ⟨by rfl, fun w hSw => by (try dsimp only at hSw); go_simp⟩) (by assumption) ?_
          simp only [Act.put, List.setIfInBounds_toArray, List.set_cons_zero, List.set_cons_succ]
          refine take_at 15 96 (.agg #[.float .f64 Yv, .float .f64 Av, .float .f64 S1v, .slice ugv k5v k6v]) rfl rfl (by kernel_rfl) (by kernel_rfl) (by kernel_rfl) (fun _ _ _ h => h) (Or.inl ⟨by rfl, fun w hSw => by (try dsimp only at hSw); go_simp⟩) (by assumption) ?_
          simp only [Act.put, List.setIfInBounds_toArray, List.set_cons_zero, List.set_cons_succ]
          refine take_at 16 97 (.int .i64 EE) rfl rfl (by kernel_rfl) (by kernel_rfl) (by kernel_rfl) (fun _ _ _ h => h) (Or.inl ⟨by rfl, fun w hSw => by (try dsimp only at hSw); go_simp⟩) (by assumption) ?_
          simp only [Act.put, List.setIfInBounds_toArray, List.set_cons_zero, List.set_cons_succ]
          have hfin := HS5ab.out X ta ca tb cb th ch uxv k1v k2v r1v c1v ulv k3v k4v Yv Av S1v ugv k5v k6v t15 t16 HQ
          rw [hG.out, hA.out] at hfin
          simp only [Act.put, List.setIfInBounds_toArray, List.set_cons_zero, List.set_cons_succ] at hfin
          exact hfin
        clear HS5ab
        have HS5 : Hid (∀ (W : World) (ta : Option Addr) (ca : Nat) (tb : Option Addr) (cb : Nat) (th : Option Addr) (ch : Nat) (uxv : Option Addr) (k1v k2v : Nat) (r1v c1v : Int) (ulv : Option Addr) (k3v k4v Yv Av S1v : Nat) (ugv : Option Addr) (k5v k6v : Nat) , Hid (FrQ u8 W [] [fun W => UpK EE f hs zs n R Z W uxv k1v k2v r1v c1v ulv k3v k4v Yv Av S1v ugv k5v k6v, fun W => FlM W th q ch hs, fun W => FlM W tb m cb xs, fun W => FlM W ta n ca zs]) → G 5 #[true, true, true, true, true, true, true, true, true, true, true, true, true, true, true, true, true, false, false, false, false, false] (Act.put (Act.put (Act.put (Act.put (Act.put (Act.put (Act.put (Act.put (Act.put (A0) (some 84) (.agg #[.slice ta n ca, .int .i64 r, .int .i64 c, .slice tb m cb])) (some 87) (.slice th q ch)) (some 90) (.float .f64 R)) (some 93) (.float .f64 Z)) (some 94) (.tuple #[.agg #[.slice uxv k1v k2v, .int .i64 r1v, .int .i64 c1v, .slice ulv k3v k4v], .agg #[.float .f64 Yv, .float .f64 Av, .float .f64 S1v, .slice ugv k5v k6v], .int .i64 EE])) (some 81) (.tuple #[.agg #[.slice uxv k1v k2v, .int .i64 r1v, .int .i64 c1v, .slice ulv k3v k4v], .agg #[.float .f64 Yv, .float .f64 Av, .float .f64 S1v, .slice ugv k5v k6v], .int .i64 EE])) (some 95) (.agg #[.slice uxv k1v k2v, .int .i64 r1v, .int .i64 c1v, .slice ulv k3v k4v])) (some 96) (.agg #[.float .f64 Yv, .float .f64 Av, .float .f64 S1v, .slice ugv k5v k6v])) (some 97) (.int .i64 EE)) W) := fun W ta ca tb cb th ch uxv k1v k2v r1v c1v ulv k3v k4v Yv Av S1v ugv k5v k6v HQ => by
          rw [hG.out, hA.out]
          simp only [Act.put, List.setIfInBounds_toArray, List.set_cons_zero, List.set_cons_succ]
          refine wpAnyH_ready (rs := [17, 18]) (by kernel_rfl) (by simp) ?_
          refine AllReadyH.cons (o := _) rfl (fun K hK => ?_) (AllReadyH.cons (o := _) rfl (fun K hK => ?_) AllReadyH.nil)
          · have hold := UpK.old (HQ.out.get (g := fun W => UpK EE f hs zs n R Z W uxv k1v k2v r1v c1v ulv k3v k4v Yv Av S1v ugv k5v k6v) 0 rfl)
            go_simp
            go_wp2_with fail
            have HQ := hid (HQ.out.alloc (RBox none 0 0 0 0 none 0 0))
            refine hK.out _ _ (HKT.out _ HQ.out.bel) (fun hHeld => ?_)
            clear hK K
            try simp only [List.setIfInBounds_toArray, List.set_cons_zero, List.set_cons_succ]
            obtain ⟨X, hX, HQ⟩ := frq_name HQ.out
            obtain ⟨t15, ht15, HQ⟩ := frq_head HQ.out
            have hy := hX.out
            unfold RBox at hy
            have hz := ht15.out
            rw [hy, hz]
            clear hy
            have HQ := hid (HQ.out.add (g := fun _ => DjT uxv ulv ugv t15) (kept_djt _ _ _ _) (djt_old hold hz))
            clear hz
            have HQ : Hid (FrQ u8 X [(t15, RBox none 0 0 0 0 none 0 0)] [fun _ => DjT uxv ulv ugv t15, fun W => UpK EE f hs zs n R Z W uxv k1v k2v r1v c1v ulv k3v k4v Yv Av S1v ugv k5v k6v, fun W => FlM W th q ch hs, fun W => FlM W tb m cb xs, fun W => FlM W ta n ca zs]) := frq_perm HQ.out (by simp) (by simp) (by simp)
            have hfin := HS5a.out X ta ca tb cb th ch uxv k1v k2v r1v c1v ulv k3v k4v Yv Av S1v ugv k5v k6v t15 HQ
            rw [hG.out, hA.out] at hfin
            simp only [Act.put, List.setIfInBounds_toArray, List.set_cons_zero, List.set_cons_succ] at hfin
            exact hfin
          · have hold := UpK.old (HQ.out.get (g := fun W => UpK EE f hs zs n R Z W uxv k1v k2v r1v c1v ulv k3v k4v Yv Av S1v ugv k5v k6v) 0 rfl)
            go_simp
            go_wp2_with fail
            have HQ := hid (HQ.out.alloc (StBox 0 0 0 none 0 0))
            refine hK.out _ _ (HKT.out _ HQ.out.bel) (fun hHeld => ?_)
            clear hK K
            try simp only [List.setIfInBounds_toArray, List.set_cons_zero, List.set_cons_succ]
            obtain ⟨X, hX, HQ⟩ := frq_name HQ.out
            obtain ⟨t16, ht16, HQ⟩ := frq_head HQ.out
            have hy := hX.out
            unfold StBox at hy
            have hz := ht16.out
            rw [hy, hz]
            clear hy
            have HQ := hid (HQ.out.add (g := fun _ => DjT uxv ulv ugv t16) (kept_djt _ _ _ _) (djt_old hold hz))
            clear hz
            have HQ : Hid (FrQ u8 X [(t16, StBox 0 0 0 none 0 0)] [fun _ => DjT uxv ulv ugv t16, fun W => UpK EE f hs zs n R Z W uxv k1v k2v r1v c1v ulv k3v k4v Yv Av S1v ugv k5v k6v, fun W => FlM W th q ch hs, fun W => FlM W tb m cb xs, fun W => FlM W ta n ca zs]) := frq_perm HQ.out (by simp) (by simp) (by simp)
            have hfin := HS5b.out X ta ca tb cb th ch uxv k1v k2v r1v c1v ulv k3v k4v Yv Av S1v ugv k5v k6v t16 HQ
            rw [hG.out, hA.out] at hfin
            simp only [Act.put, List.setIfInBounds_toArray, List.set_cons_zero, List.set_cons_succ] at hfin
            exact hfin
        have HS4a : Hid (∀ (W : World) (ta : Option Addr) (ca : Nat) (tb : Option Addr) (cb : Nat) (th : Option Addr) (ch : Nat) (t15 : Nat), Hid (FrQ u8 W [(t15, RBox none 0 0 0 0 none 0 0)] [fun W => FlM W th q ch hs, fun W => FlM W tb m cb xs, fun W => FlM W ta n ca zs]) → G 9 #[true, true, true, true, true, true, true, true, true, true, true, true, false, false, false, false, false, true, false, false, false, false] (Act.put (Act.put (Act.put (Act.put (Act.put (A0) (some 84) (.agg #[.slice ta n ca, .int .i64 r, .int .i64 c, .slice tb m cb])) (some 87) (.slice th q ch)) (some 90) (.float .f64 R)) (some 93) (.float .f64 Z)) (some 15) (.pointer (some ⟨t15, 0, none⟩))) W) := fun W ta ca tb cb th ch t15 HQ => by
          rw [hG.out, hA.out]
          simp only [Act.put, List.setIfInBounds_toArray, List.set_cons_zero, List.set_cons_succ]
          refine wpAnyH_ready (rs := [12, 18]) (by kernel_rfl) (by simp) ?_
          refine AllReadyH.cons (o := _) rfl (fun K hK => ?_) (AllReadyH.cons (o := _) rfl (fun K hK => ?_) AllReadyH.nil)
          · go_simp
            refine (HUD.out W ta ca tb cb th ch (HQ.out.get (g := fun W => FlM W ta n ca zs) 2 rfl) (HQ.out.get (g := fun W => FlM W tb m cb xs) 1 rfl) (HQ.out.get (g := fun W => FlM W th q ch hs) 0 rfl)).mono ?_
            rintro e X ⟨⟨uxv, k1v, k2v, r1v, c1v, ulv, k3v, k4v, Yv, Av, S1v, ugv, k5v, k6v, rfl, hup, hnew⟩, hb⟩
            have hdT : DjT uxv ulv ugv t15 := djt_new hnew (HQ.out.at 0 rfl)
            have HQ := hid (HQ.out.call hb)
            have HQ := hid (HQ.out.add (g := fun W => UpK EE f hs zs n R Z W uxv k1v k2v r1v c1v ulv k3v k4v Yv Av S1v ugv k5v k6v) (kept_upk _ _ _ _ _ _ _ _ _ _ _ _ _ _ _ _ _ _ _ _ _) hup)
            have HQ := hid (HQ.out.add (g := fun _ => DjT uxv ulv ugv t15) (kept_djt _ _ _ _) hdT)
            clear hb
            go_wp2_with fail
            refine hK.out _ _ (HKT.out _ HQ.out.bel) (fun hHeld => ?_)
            clear hK K
            try simp only [List.setIfInBounds_toArray, List.set_cons_zero, List.set_cons_succ]
            refine take_at 13 81 (.tuple #[.agg #[.slice uxv k1v k2v, .int .i64 r1v, .int .i64 c1v, .slice ulv k3v k4v], .agg #[.float .f64 Yv, .float .f64 Av, .float .f64 S1v, .slice ugv k5v k6v], .int .i64 EE]) rfl rfl (by kernel_rfl) (by kernel_rfl) (by kernel_rfl) (fun _ _ _ h => h) (Or.inl ⟨by rfl, fun w hSw => by (try dsimp only at hSw); go_simp⟩) (by assumption) ?_
            simp only [Act.put, List.setIfInBounds_toArray, List.set_cons_zero, List.set_cons_succ]
            refine take_at 14 95 (.agg #[.slice uxv k1v k2v, .int .i64 r1v, .int .i64 c1v, .slice ulv k3v k4v]) rfl rfl (by kernel_rfl) (by kernel_rfl) (by kernel_rfl) (fun _ _ _ h => h) (Or.inl ⟨by rfl, fun w hSw => by (try dsimp only at hSw); go_simp⟩) (by assumption) ?_
            simp only [Act.put, List.setIfInBounds_toArray, List.set_cons_zero, List.set_cons_succ]
            refine take_at 15 96 (.agg #[.float .f64 Yv, .float .f64 Av, .float .f64 S1v, .slice ugv k5v k6v]) rfl rfl (by kernel_rfl) (by kernel_rfl) (by kernel_rfl) (fun _ _ _ h => h) (Or.inl ⟨by rfl, fun w hSw => by (try dsimp only at hSw); go_simp⟩) (by assumption) ?_
            simp only [Act.put, List.setIfInBounds_toArray, List.set_cons_zero, List.set_cons_succ]
            refine take_at 16 97 (.int .i64 EE) rfl rfl (by kernel_rfl) (by kernel_rfl) (by kernel_rfl) (fun _ _ _ h => h) (Or.inl ⟨by rfl, fun w hSw => by (try dsimp only at hSw); go_simp⟩) (by assumption) ?_
            simp only [Act.put, List.setIfInBounds_toArray, List.set_cons_zero, List.set_cons_succ]
            have hfin := HS5a.out X ta ca tb cb th ch uxv k1v k2v r1v c1v ulv k3v k4v Yv Av S1v ugv k5v k6v t15 HQ
            rw [hG.out, hA.out] at hfin
            simp only [Act.put, List.setIfInBounds_toArray, List.set_cons_zero, List.set_cons_succ] at hfin
            exact hfin
          · go_simp
            go_wp2_with fail
            have HQ := hid (HQ.out.alloc (StBox 0 0 0 none 0 0))
            refine hK.out _ _ (HKT.out _ HQ.out.bel) (fun hHeld => ?_)
            clear hK K
            try simp only [List.setIfInBounds_toArray, List.set_cons_zero, List.set_cons_succ]
            obtain ⟨X, hX, HQ⟩ := frq_name HQ.out
            obtain ⟨t16, ht16, HQ⟩ := frq_head HQ.out
            have hy := hX.out
            unfold StBox at hy
            have hz := ht16.out
            rw [hy, hz]
            clear hy
            clear hz
            have HQ : Hid (FrQ u8 X [(t16, StBox 0 0 0 none 0 0), (t15, RBox none 0 0 0 0 none 0 0)] [fun W => FlM W th q ch hs, fun W => FlM W tb m cb xs, fun W => FlM W ta n ca zs]) := frq_perm HQ.out (by simp) (by have hn := HQ.out.nod; simp only [List.map_cons, List.map_nil, List.nodup_cons, List.mem_cons, List.not_mem_nil, or_false, not_false_iff, List.nodup_nil, and_true] at hn ⊢; omega) (by simp)
            have hfin := HS4ab.out X ta ca tb cb th ch t15 t16 HQ
            rw [hG.out, hA.out] at hfin
            simp only [Act.put, List.setIfInBounds_toArray, List.set_cons_zero, List.set_cons_succ] at hfin
            exact hfin
        have HS4b : Hid (∀ (W : World) (ta : Option Addr) (ca : Nat) (tb : Option Addr) (cb : Nat) (th : Option Addr) (ch : Nat) (t16 : Nat), Hid (FrQ u8 W [(t16, StBox 0 0 0 none 0 0)] [fun W => FlM W th q ch hs, fun W => FlM W tb m cb xs, fun W => FlM W ta n ca zs]) → G 9 #[true, true, true, true, true, true, true, true, true, true, true, true, false, false, false, false, false, false, true, false, false, false] (Act.put (Act.put (Act.put (Act.put (Act.put (A0) (some 84) (.agg #[.slice ta n ca, .int .i64 r, .int .i64 c, .slice tb m cb])) (some 87) (.slice th q ch)) (some 90) (.float .f64 R)) (some 93) (.float .f64 Z)) (some 16) (.pointer (some ⟨t16, 0, none⟩))) W) := fun W ta ca tb cb th ch t16 HQ => by
          rw [hG.out, hA.out]
          simp only [Act.put, List.setIfInBounds_toArray, List.set_cons_zero, List.set_cons_succ]
          refine wpAnyH_ready (rs := [12, 17]) (by kernel_rfl) (by simp) ?_
          refine AllReadyH.cons (o := _) rfl (fun K hK => ?_) (AllReadyH.cons (o := _) rfl (fun K hK => ?_) AllReadyH.nil)
          · go_simp
            refine (HUD.out W ta ca tb cb th ch (HQ.out.get (g := fun W => FlM W ta n ca zs) 2 rfl) (HQ.out.get (g := fun W => FlM W tb m cb xs) 1 rfl) (HQ.out.get (g := fun W => FlM W th q ch hs) 0 rfl)).mono ?_
            rintro e X ⟨⟨uxv, k1v, k2v, r1v, c1v, ulv, k3v, k4v, Yv, Av, S1v, ugv, k5v, k6v, rfl, hup, hnew⟩, hb⟩
            have hdU : DjT uxv ulv ugv t16 := djt_new hnew (HQ.out.at 0 rfl)
            have HQ := hid (HQ.out.call hb)
            have HQ := hid (HQ.out.add (g := fun W => UpK EE f hs zs n R Z W uxv k1v k2v r1v c1v ulv k3v k4v Yv Av S1v ugv k5v k6v) (kept_upk _ _ _ _ _ _ _ _ _ _ _ _ _ _ _ _ _ _ _ _ _) hup)
            have HQ := hid (HQ.out.add (g := fun _ => DjT uxv ulv ugv t16) (kept_djt _ _ _ _) hdU)
            clear hb
            go_wp2_with fail
            refine hK.out _ _ (HKT.out _ HQ.out.bel) (fun hHeld => ?_)
            clear hK K
            try simp only [List.setIfInBounds_toArray, List.set_cons_zero, List.set_cons_succ]
            refine take_at 13 81 (.tuple #[.agg #[.slice uxv k1v k2v, .int .i64 r1v, .int .i64 c1v, .slice ulv k3v k4v], .agg #[.float .f64 Yv, .float .f64 Av, .float .f64 S1v, .slice ugv k5v k6v], .int .i64 EE]) rfl rfl (by kernel_rfl) (by kernel_rfl) (by kernel_rfl) (fun _ _ _ h => h) (Or.inl ⟨by rfl, fun w hSw => by (try dsimp only at hSw); go_simp⟩) (by assumption) ?_
            simp only [Act.put, List.setIfInBounds_toArray, List.set_cons_zero, List.set_cons_succ]
            refine take_at 14 95 (.agg #[.slice uxv k1v k2v, .int .i64 r1v, .int .i64 c1v, .slice ulv k3v k4v]) rfl rfl (by kernel_rfl) (by kernel_rfl) (by kernel_rfl) (fun _ _ _ h => h) (Or.inl ⟨by rfl, fun w hSw => by (try dsimp only at hSw); go_simp⟩) (by assumption) ?_
            simp only [Act.put, List.setIfInBounds_toArray, List.set_cons_zero, List.set_cons_succ]
            refine take_at 15 96 (.agg #[.float .f64 Yv, .float .f64 Av, .float .f64 S1v, .slice ugv k5v k6v]) rfl rfl (by kernel_rfl) (by kernel_rfl) (by kernel_rfl) (fun _ _ _ h => h) (Or.inl ⟨by rfl, fun w hSw => by (try dsimp only at hSw); go_simp⟩) (by assumption) ?_
            simp only [Act.put, List.setIfInBounds_toArray, List.set_cons_zero, List.set_cons_succ]
            refine take_at 16 97 (.int .i64 EE) rfl rfl (by kernel_rfl) (by kernel_rfl) (by kernel_rfl) (fun _ _ _ h => h) (Or.inl ⟨by rfl, fun w hSw => by (try dsimp only at hSw); go_simp⟩) (by assumption) ?_
            simp only [Act.put, List.setIfInBounds_toArray, List.set_cons_zero, List.set_cons_succ]
            have hfin := HS5b.out X ta ca tb cb th ch uxv k1v k2v r1v c1v ulv k3v k4v Yv Av S1v ugv k5v k6v t16 HQ
            rw [hG.out, hA.out] at hfin
            simp only [Act.put, List.setIfInBounds_toArray, List.set_cons_zero, List.set_cons_succ] at hfin
            exact hfin
          · go_simp
            go_wp2_with fail
            have HQ := hid (HQ.out.alloc (RBox none 0 0 0 0 none 0 0))
            refine hK.out _ _ (HKT.out _ HQ.out.bel) (fun hHeld => ?_)
            clear hK K
            try simp only [List.setIfInBounds_toArray, List.set_cons_zero, List.set_cons_succ]
            obtain ⟨X, hX, HQ⟩ := frq_name HQ.out
            obtain ⟨t15, ht15, HQ⟩ := frq_head HQ.out
            have hy := hX.out
            unfold RBox at hy
            have hz := ht15.out
            rw [hy, hz]
            clear hy
            clear hz
            have HQ : Hid (FrQ u8 X [(t16, StBox 0 0 0 none 0 0), (t15, RBox none 0 0 0 0 none 0 0)] [fun W => FlM W th q ch hs, fun W => FlM W tb m cb xs, fun W => FlM W ta n ca zs]) := frq_perm HQ.out (by simp) (by have hn := HQ.out.nod; simp only [List.map_cons, List.map_nil, List.nodup_cons, List.mem_cons, List.not_mem_nil, or_false, not_false_iff, List.nodup_nil, and_true] at hn ⊢; omega) (by simp)
            have hfin := HS4ab.out X ta ca tb cb th ch t15 t16 HQ
            rw [hG.out, hA.out] at hfin
            simp only [Act.put, List.setIfInBounds_toArray, List.set_cons_zero, List.set_cons_succ] at hfin
            exact hfin
        have HS3ab : Hid (∀ (W : World) (ta : Option Addr) (ca : Nat) (tb : Option Addr) (cb : Nat) (th : Option Addr) (ch : Nat) (t15 t16 : Nat), Hid (FrQ u8 W [(t16, StBox 0 0 0 none 0 0), (t15, RBox none 0 0 0 0 none 0 0)] [fun W => FlM W th q ch hs, fun W => FlM W tb m cb xs, fun W => FlM W ta n ca zs]) → G 9 #[true, true, true, true, true, true, true, true, true, true, true, false, false, false, false, false, false, true, true, false, false, false] (Act.put (Act.put (Act.put (Act.put (Act.put (A0) (some 84) (.agg #[.slice ta n ca, .int .i64 r, .int .i64 c, .slice tb m cb])) (some 87) (.slice th q ch)) (some 90) (.float .f64 R)) (some 15) (.pointer (some ⟨t15, 0, none⟩))) (some 16) (.pointer (some ⟨t16, 0, none⟩))) W) := fun W ta ca tb cb th ch t15 t16 HQ => by
          rw [hG.out, hA.out]
          simp only [Act.put, List.setIfInBounds_toArray, List.set_cons_zero, List.set_cons_succ]
          refine wpAnyH_ready (rs := [11]) (by kernel_rfl) (by simp) ?_
          refine AllReadyH.cons (o := _) rfl (fun K hK => ?_) AllReadyH.nil
          go_simp
          refine (HFZ2.out W).mono ?_
          rintro e X ⟨rfl, hb⟩
          have HQ := hid (HQ.out.call hb)
          clear hb
          go_wp2_with fail
          refine hK.out _ _ (HKT.out _ HQ.out.bel) (fun hHeld => ?_)
          clear hK K
          try simp only [List.setIfInBounds_toArray, List.set_cons_zero, List.set_cons_succ]
          have hfin := HS4ab.out X ta ca tb cb th ch t15 t16 HQ
          rw [hG.out, hA.out] at hfin
          simp only [Act.put, List.setIfInBounds_toArray, List.set_cons_zero, List.set_cons_succ] at hfin
          exact hfin
        clear HS5a HS5b HS4ab
        have HS4 : Hid (∀ (W : World) (ta : Option Addr) (ca : Nat) (tb : Option Addr) (cb : Nat) (th : Option Addr) (ch : Nat) , Hid (FrQ u8 W [] [fun W => FlM W th q ch hs, fun W => FlM W tb m cb xs, fun W => FlM W ta n ca zs]) → G 10 #[true, true, true, true, true, true, true, true, true, true, true, true, false, false, false, false, false, false, false, false, false, false] (Act.put (Act.put (Act.put (Act.put (A0) (some 84) (.agg #[.slice ta n ca, .int .i64 r, .int .i64 c, .slice tb m cb])) (some 87) (.slice th q ch)) (some 90) (.float .f64 R)) (some 93) (.float .f64 Z)) W) := fun W ta ca tb cb th ch HQ => by
          rw [hG.out, hA.out]
          simp only [Act.put, List.setIfInBounds_toArray, List.set_cons_zero, List.set_cons_succ]
          refine wpAnyH_ready (rs := [12, 17, 18]) (by kernel_rfl) (by simp) ?_
          refine AllReadyH.cons (o := _) rfl (fun K hK => ?_) (AllReadyH.cons (o := _) rfl (fun K hK => ?_) (AllReadyH.cons (o := _) rfl (fun K hK => ?_) AllReadyH.nil))
          · go_simp
            refine (HUD.out W ta ca tb cb th ch (HQ.out.get (g := fun W => FlM W ta n ca zs) 2 rfl) (HQ.out.get (g := fun W => FlM W tb m cb xs) 1 rfl) (HQ.out.get (g := fun W => FlM W th q ch hs) 0 rfl)).mono ?_
            rintro e X ⟨⟨uxv, k1v, k2v, r1v, c1v, ulv, k3v, k4v, Yv, Av, S1v, ugv, k5v, k6v, rfl, hup, hnew⟩, hb⟩
            have HQ := hid (HQ.out.call hb)
            have HQ := hid (HQ.out.add (g := fun W => UpK EE f hs zs n R Z W uxv k1v k2v r1v c1v ulv k3v k4v Yv Av S1v ugv k5v k6v) (kept_upk _ _ _ _ _ _ _ _ _ _ _ _ _ _ _ _ _ _ _ _ _) hup)
            clear hb
            go_wp2_with fail
            refine hK.out _ _ (HKT.out _ HQ.out.bel) (fun hHeld => ?_)
            clear hK K
            try simp only [List.setIfInBounds_toArray, List.set_cons_zero, List.set_cons_succ]
            refine take_at 13 81 (.tuple #[.agg #[.slice uxv k1v k2v, .int .i64 r1v, .int .i64 c1v, .slice ulv k3v k4v], .agg #[.float .f64 Yv, .float .f64 Av, .float .f64 S1v, .slice ugv k5v k6v], .int .i64 EE]) rfl rfl (by kernel_rfl) (by kernel_rfl) (by kernel_rfl) (fun _ _ _ h => h) (Or.inl ⟨by rfl, fun w hSw => by (try dsimp only at hSw); go_simp⟩) (by assumption) ?_
            simp only [Act.put, List.setIfInBounds_toArray, List.set_cons_zero, List.set_cons_succ]
            refine take_at 14 95 (.agg #[.slice uxv k1v k2v, .int .i64 r1v, .int .i64 c1v, .slice ulv k3v k4v]) rfl rfl (by kernel_rfl) (by kernel_rfl) (by kernel_rfl) (fun _ _ _ h => h) (Or.inl ⟨by rfl, fun w hSw => by (try dsimp only at hSw); go_simp⟩) (by assumption) ?_
            simp only [Act.put, List.setIfInBounds_toArray, List.set_cons_zero, List.set_cons_succ]
            refine take_at 15 96 (.agg #[.float .f64 Yv, .float .f64 Av, .float .f64 S1v, .slice ugv k5v k6v]) rfl rfl (by kernel_rfl) (by kernel_rfl) (by kernel_rfl) (fun _ _ _ h => h) (Or.inl ⟨by rfl, fun w hSw => by (try dsimp only at hSw); go_simp⟩) (by assumption) ?_
            simp only [Act.put, List.setIfInBounds_toArray, List.set_cons_zero, List.set_cons_succ]
            refine take_at 16 97 (.int .i64 EE) rfl rfl (by kernel_rfl) (by kernel_rfl) (by kernel_rfl) (fun _ _ _ h => h) (Or.inl ⟨by rfl, fun w hSw => by (try dsimp only at hSw); go_simp⟩) (by assumption) ?_
            simp only [Act.put, List.setIfInBounds_toArray, List.set_cons_zero, List.set_cons_succ]
            have hfin := HS5.out X ta ca tb cb th ch uxv k1v k2v r1v c1v ulv k3v k4v Yv Av S1v ugv k5v k6v HQ
            rw [hG.out, hA.out] at hfin
            simp only [Act.put, List.setIfInBounds_toArray, List.set_cons_zero, List.set_cons_succ] at hfin
            exact hfin
          · go_simp
            go_wp2_with fail
            have HQ := hid (HQ.out.alloc (RBox none 0 0 0 0 none 0 0))
            refine hK.out _ _ (HKT.out _ HQ.out.bel) (fun hHeld => ?_)
            clear hK K
            try simp only [List.setIfInBounds_toArray, List.set_cons_zero, List.set_cons_succ]
            obtain ⟨X, hX, HQ⟩ := frq_name HQ.out
            obtain ⟨t15, ht15, HQ⟩ := frq_head HQ.out
            have hy := hX.out
            unfold RBox at hy
            have hz := ht15.out
            rw [hy, hz]
            clear hy
            clear hz
            have HQ : Hid (FrQ u8 X [(t15, RBox none 0 0 0 0 none 0 0)] [fun W => FlM W th q ch hs, fun W => FlM W tb m cb xs, fun W => FlM W ta n ca zs]) := frq_perm HQ.out (by simp) (by simp) (by simp)
            have hfin := HS4a.out X ta ca tb cb th ch t15 HQ
            rw [hG.out, hA.out] at hfin
            simp only [Act.put, List.setIfInBounds_toArray, List.set_cons_zero, List.set_cons_succ] at hfin
            exact hfin
          · go_simp
            go_wp2_with fail
            have HQ := hid (HQ.out.alloc (StBox 0 0 0 none 0 0))
            refine hK.out _ _ (HKT.out _ HQ.out.bel) (fun hHeld => ?_)
            clear hK K
            try simp only [List.setIfInBounds_toArray, List.set_cons_zero, List.set_cons_succ]
            obtain ⟨X, hX, HQ⟩ := frq_name HQ.out
            obtain ⟨t16, ht16, HQ⟩ := frq_head HQ.out
            have hy := hX.out
            unfold StBox at hy
            have hz := ht16.out
            rw [hy, hz]
            clear hy
            clear hz
            have HQ : Hid (FrQ u8 X [(t16, StBox 0 0 0 none 0 0)] [fun W => FlM W th q ch hs, fun W => FlM W tb m cb xs, fun W => FlM W ta n ca zs]) := frq_perm HQ.out (by simp) (by simp) (by simp)
            have hfin := HS4b.out X ta ca tb cb th ch t16 HQ
            rw [hG.out, hA.out] at hfin
            simp only [Act.put, List.setIfInBounds_toArray, List.set_cons_zero, List.set_cons_succ] at hfin
            exact hfin
        have HS3a : Hid (∀ (W : World) (ta : Option Addr) (ca : Nat) (tb : Option Addr) (cb : Nat) (th : Option Addr) (ch : Nat) (t15 : Nat), Hid (FrQ u8 W [(t15, RBox none 0 0 0 0 none 0 0)] [fun W => FlM W th q ch hs, fun W => FlM W tb m cb xs, fun W => FlM W ta n ca zs]) → G 10 #[true, true, true, true, true, true, true, true, true, true, true, false, false, false, false, false, false, true, false, false, false, false] (Act.put (Act.put (Act.put (Act.put (A0) (some 84) (.agg #[.slice ta n ca, .int .i64 r, .int .i64 c, .slice tb m cb])) (some 87) (.slice th q ch)) (some 90) (.float .f64 R)) (some 15) (.pointer (some ⟨t15, 0, none⟩))) W) := fun W ta ca tb cb th ch t15 HQ => by
          rw [hG.out, hA.out]
          simp only [Act.put, List.setIfInBounds_toArray, List.set_cons_zero, List.set_cons_succ]
          refine wpAnyH_ready (rs := [11, 18]) (by kernel_rfl) (by simp) ?_
          refine AllReadyH.cons (o := _) rfl (fun K hK => ?_) (AllReadyH.cons (o := _) rfl (fun K hK => ?_) AllReadyH.nil)
          · go_simp
            refine (HFZ2.out W).mono ?_
            rintro e X ⟨rfl, hb⟩
            have HQ := hid (HQ.out.call hb)
            clear hb
            go_wp2_with fail
            refine hK.out _ _ (HKT.out _ HQ.out.bel) (fun hHeld => ?_)
            clear hK K
            try simp only [List.setIfInBounds_toArray, List.set_cons_zero, List.set_cons_succ]
            have hfin := HS4a.out X ta ca tb cb th ch t15 HQ
            rw [hG.out, hA.out] at hfin
            simp only [Act.put, List.setIfInBounds_toArray, List.set_cons_zero, List.set_cons_succ] at hfin
            exact hfin
          · go_simp
            go_wp2_with fail
            have HQ := hid (HQ.out.alloc (StBox 0 0 0 none 0 0))
            refine hK.out _ _ (HKT.out _ HQ.out.bel) (fun hHeld => ?_)
            clear hK K
            try simp only [List.setIfInBounds_toArray, List.set_cons_zero, List.set_cons_succ]
            obtain ⟨X, hX, HQ⟩ := frq_name HQ.out
            obtain ⟨t16, ht16, HQ⟩ := frq_head HQ.out
            have hy := hX.out
            unfold StBox at hy
            have hz := ht16.out
            rw [hy, hz]
            clear hy
            clear hz
            have HQ : Hid (FrQ u8 X [(t16, StBox 0 0 0 none 0 0), (t15, RBox none 0 0 0 0 none 0 0)] [fun W => FlM W th q ch hs, fun W => FlM W tb m cb xs, fun W => FlM W ta n ca zs]) := frq_perm HQ.out (by simp) (by have hn := HQ.out.nod; simp only [List.map_cons, List.map_nil, List.nodup_cons, List.mem_cons, List.not_mem_nil, or_false, not_false_iff, List.nodup_nil, and_true] at hn ⊢; omega) (by simp)
            have hfin := HS3ab.out X ta ca tb cb th ch t15 t16 HQ
            rw [hG.out, hA.out] at hfin
            simp only [Act.put, List.setIfInBounds_toArray, List.set_cons_zero, List.set_cons_succ] at hfin
            exact hfin
        have HS3b : Hid (∀ (W : World) (ta : Option Addr) (ca : Nat) (tb : Option Addr) (cb : Nat) (th : Option Addr) (ch : Nat) (t16 : Nat), Hid (FrQ u8 W [(t16, StBox 0 0 0 none 0 0)] [fun W => FlM W th q ch hs, fun W => FlM W tb m cb xs, fun W => FlM W ta n ca zs]) → G 10 #[true, true, true, true, true, true, true, true, true, true, true, false, false, false, false, false, false, false, true, false, false, false] (Act.put (Act.put (Act.put (Act.put (A0) (some 84) (.agg #[.slice ta n ca, .int .i64 r, .int .i64 c, .slice tb m cb])) (some 87) (.slice th q ch)) (some 90) (.float .f64 R)) (some 16) (.pointer (some ⟨t16, 0, none⟩))) W) := fun W ta ca tb cb th ch t16 HQ => by
          rw [hG.out, hA.out]
          simp only [Act.put, List.setIfInBounds_toArray, List.set_cons_zero, List.set_cons_succ]
          refine wpAnyH_ready (rs := [11, 17]) (by kernel_rfl) (by simp) ?_
          refine AllReadyH.cons (o := _) rfl (fun K hK => ?_) (AllReadyH.cons (o := _) rfl (fun K hK => ?_) AllReadyH.nil)
          · go_simp
            refine (HFZ2.out W).mono ?_
            rintro e X ⟨rfl, hb⟩
            have HQ := hid (HQ.out.call hb)
            clear hb
            go_wp2_with fail
            refine hK.out _ _ (HKT.out _ HQ.out.bel) (fun hHeld => ?_)
            clear hK K
            try simp only [List.setIfInBounds_toArray, List.set_cons_zero, List.set_cons_succ]
            have hfin := HS4b.out X ta ca tb cb th ch t16 HQ
            rw [hG.out, hA.out] at hfin
            simp only [Act.put, List.setIfInBounds_toArray, List.set_cons_zero, List.set_cons_succ] at hfin
            exact hfin
          · go_simp
            go_wp2_with fail
            have HQ := hid (HQ.out.alloc (RBox none 0 0 0 0 none 0 0))
            refine hK.out _ _ (HKT.out _ HQ.out.bel) (fun hHeld => ?_)
            clear hK K
            try simp only [List.setIfInBounds_toArray, List.set_cons_zero, List.set_cons_succ]
            obtain ⟨X, hX, HQ⟩ := frq_name HQ.out
            obtain ⟨t15, ht15, HQ⟩ := frq_head HQ.out
            have hy := hX.out
            unfold RBox at hy
            have hz := ht15.out
            rw [hy, hz]
            clear hy
            clear hz
            have HQ : Hid (FrQ u8 X [(t16, StBox 0 0 0 none 0 0), (t15, RBox none 0 0 0 0 none 0 0)] [fun W => FlM W th q ch hs, fun W => FlM W tb m cb xs, fun W => FlM W ta n ca zs]) := frq_perm HQ.out (by simp) (by have hn := HQ.out.nod; simp only [List.map_cons, List.map_nil, List.nodup_cons, List.mem_cons, List.not_mem_nil, or_false, not_false_iff, List.nodup_nil, and_true] at hn ⊢; omega) (by simp)
            have hfin := HS3ab.out X ta ca tb cb th ch t15 t16 HQ
            rw [hG.out, hA.out] at hfin
            simp only [Act.put, List.setIfInBounds_toArray, List.set_cons_zero, List.set_cons_succ] at hfin
            exact hfin
        have HS2ab : Hid (∀ (W : World) (ta : Option Addr) (ca : Nat) (tb : Option Addr) (cb : Nat) (th : Option Addr) (ch : Nat) (t15 t16 : Nat), Hid (FrQ u8 W [(t16, StBox 0 0 0 none 0 0), (t15, RBox none 0 0 0 0 none 0 0)] [fun W => FlM W th q ch hs, fun W => FlM W tb m cb xs, fun W => FlM W ta n ca zs]) → G 10 #[true, true, true, true, true, true, true, true, false, true, true, false, false, false, false, false, false, true, true, false, false, false] (Act.put (Act.put (Act.put (Act.put (A0) (some 84) (.agg #[.slice ta n ca, .int .i64 r, .int .i64 c, .slice tb m cb])) (some 87) (.slice th q ch)) (some 15) (.pointer (some ⟨t15, 0, none⟩))) (some 16) (.pointer (some ⟨t16, 0, none⟩))) W) := fun W ta ca tb cb th ch t15 t16 HQ => by
          rw [hG.out, hA.out]
          simp only [Act.put, List.setIfInBounds_toArray, List.set_cons_zero, List.set_cons_succ]
          refine wpAnyH_ready (rs := [8]) (by kernel_rfl) (by simp) ?_
          refine AllReadyH.cons (o := _) rfl (fun K hK => ?_) AllReadyH.nil
          go_simp
          refine (HFR2.out W).mono ?_
          rintro e X ⟨rfl, hb⟩
          have HQ := hid (HQ.out.call hb)
          clear hb
          go_wp2_with fail
          refine hK.out _ _ (HKT.out _ HQ.out.bel) (fun hHeld => ?_)
          clear hK K
          try simp only [List.setIfInBounds_toArray, List.set_cons_zero, List.set_cons_succ]
          have hfin := HS3ab.out X ta ca tb cb th ch t15 t16 HQ
          rw [hG.out, hA.out] at hfin
          simp only [Act.put, List.setIfInBounds_toArray, List.set_cons_zero, List.set_cons_succ] at hfin
          exact hfin
        clear HS5 HS4a HS4b HS3ab
        have HS3 : Hid (∀ (W : World) (ta : Option Addr) (ca : Nat) (tb : Option Addr) (cb : Nat) (th : Option Addr) (ch : Nat) , Hid (FrQ u8 W [] [fun W => FlM W th q ch hs, fun W => FlM W tb m cb xs, fun W => FlM W ta n ca zs]) → G 11 #[true, true, true, true, true, true, true, true, true, true, true, false, false, false, false, false, false, false, false, false, false, false] (Act.put (Act.put (Act.put (A0) (some 84) (.agg #[.slice ta n ca, .int .i64 r, .int .i64 c, .slice tb m cb])) (some 87) (.slice th q ch)) (some 90) (.float .f64 R)) W) := fun W ta ca tb cb th ch HQ => by
          rw [hG.out, hA.out]
          simp only [Act.put, List.setIfInBounds_toArray, List.set_cons_zero, List.set_cons_succ]
          refine wpAnyH_ready (rs := [11, 17, 18]) (by kernel_rfl) (by simp) ?_
          refine AllReadyH.cons (o := _) rfl (fun K hK => ?_) (AllReadyH.cons (o := _) rfl (fun K hK => ?_) (AllReadyH.cons (o := _) rfl (fun K hK => ?_) AllReadyH.nil))
          · go_simp
            refine (HFZ2.out W).mono ?_
            rintro e X ⟨rfl, hb⟩
            have HQ := hid (HQ.out.call hb)
            clear hb
            go_wp2_with fail
            refine hK.out _ _ (HKT.out _ HQ.out.bel) (fun hHeld => ?_)
            clear hK K
            try simp only [List.setIfInBounds_toArray, List.set_cons_zero, List.set_cons_succ]
            have hfin := HS4.out X ta ca tb cb th ch HQ
            rw [hG.out, hA.out] at hfin
            simp only [Act.put, List.setIfInBounds_toArray, List.set_cons_zero, List.set_cons_succ] at hfin
            exact hfin
          · go_simp
            go_wp2_with fail
            have HQ := hid (HQ.out.alloc (RBox none 0 0 0 0 none 0 0))
            refine hK.out _ _ (HKT.out _ HQ.out.bel) (fun hHeld => ?_)
            clear hK K
            try simp only [List.setIfInBounds_toArray, List.set_cons_zero, List.set_cons_succ]
            obtain ⟨X, hX, HQ⟩ := frq_name HQ.out
            obtain ⟨t15, ht15, HQ⟩ := frq_head HQ.out
            have hy := hX.out
            unfold RBox at hy
            have hz := ht15.out
            rw [hy, hz]
            clear hy
            clear hz
            have HQ : Hid (FrQ u8 X [(t15, RBox none 0 0 0 0 none 0 0)] [fun W => FlM W th q ch hs, fun W => FlM W tb m cb xs, fun W => FlM W ta n ca zs]) := frq_perm HQ.out (by simp) (by simp) (by simp)
            have hfin := HS3a.out X ta ca tb cb th ch t15 HQ
            rw [hG.out, hA.out] at hfin
            simp only [Act.put, List.setIfInBounds_toArray, List.set_cons_zero, List.set_cons_succ] at hfin
            exact hfin
          · go_simp
            go_wp2_with fail
            have HQ := hid (HQ.out.alloc (StBox 0 0 0 none 0 0))
            refine hK.out _ _ (HKT.out _ HQ.out.bel) (fun hHeld => ?_)
            clear hK K
            try simp only [List.setIfInBounds_toArray, List.set_cons_zero, List.set_cons_succ]
            obtain ⟨X, hX, HQ⟩ := frq_name HQ.out
            obtain ⟨t16, ht16, HQ⟩ := frq_head HQ.out
            have hy := hX.out
            unfold StBox at hy
            have hz := ht16.out
            rw [hy, hz]
            clear hy
            clear hz
            have HQ : Hid (FrQ u8 X [(t16, StBox 0 0 0 none 0 0)] [fun W => FlM W th q ch hs, fun W => FlM W tb m cb xs, fun W => FlM W ta n ca zs]) := frq_perm HQ.out (by simp) (by simp) (by simp)
            have hfin := HS3b.out X ta ca tb cb th ch t16 HQ
            rw [hG.out, hA.out] at hfin
            simp only [Act.put, List.setIfInBounds_toArray, List.set_cons_zero, List.set_cons_succ] at hfin
            exact hfin
        have HS2a : Hid (∀ (W : World) (ta : Option Addr) (ca : Nat) (tb : Option Addr) (cb : Nat) (th : Option Addr) (ch : Nat) (t15 : Nat), Hid (FrQ u8 W [(t15, RBox none 0 0 0 0 none 0 0)] [fun W => FlM W th q ch hs, fun W => FlM W tb m cb xs, fun W => FlM W ta n ca zs]) → G 11 #[true, true, true, true, true, true, true, true, false, true, true, false, false, false, false, false, false, true, false, false, false, false] (Act.put (Act.put (Act.put (A0) (some 84) (.agg #[.slice ta n ca, .int .i64 r, .int .i64 c, .slice tb m cb])) (some 87) (.slice th q ch)) (some 15) (.pointer (some ⟨t15, 0, none⟩))) W) := fun W ta ca tb cb th ch t15 HQ => by
          rw [hG.out, hA.out]
          simp only [Act.put, List.setIfInBounds_toArray, List.set_cons_zero, List.set_cons_succ]
          refine wpAnyH_ready (rs := [8, 18]) (by kernel_rfl) (by simp) ?_
          refine AllReadyH.cons (o := _) rfl (fun K hK => ?_) (AllReadyH.cons (o := _) rfl (fun K hK => ?_) AllReadyH.nil)
          · go_simp
            refine (HFR2.out W).mono ?_
            rintro e X ⟨rfl, hb⟩
            have HQ := hid (HQ.out.call hb)
            clear hb
            go_wp2_with fail
            refine hK.out _ _ (HKT.out _ HQ.out.bel) (fun hHeld => ?_)
            clear hK K
            try simp only [List.setIfInBounds_toArray, List.set_cons_zero, List.set_cons_succ]
            have hfin := HS3a.out X ta ca tb cb th ch t15 HQ
            rw [hG.out, hA.out] at hfin
            simp only [Act.put, List.setIfInBounds_toArray, List.set_cons_zero, List.set_cons_succ] at hfin
            exact hfin
          · go_simp
            go_wp2_with fail
            have HQ := hid (HQ.out.alloc (StBox 0 0 0 none 0 0))
            refine hK.out _ _ (HKT.out _ HQ.out.bel) (fun hHeld => ?_)
            clear hK K
            try simp only [List.setIfInBounds_toArray, List.set_cons_zero, List.set_cons_succ]
            obtain ⟨X, hX, HQ⟩ := frq_name HQ.out
            obtain ⟨t16, ht16, HQ⟩ := frq_head HQ.out
            have hy := hX.out
            unfold StBox at hy
            have hz := ht16.out
            rw [hy, hz]
            clear hy
            clear hz
            have HQ : Hid (FrQ u8 X [(t16, StBox 0 0 0 none 0 0), (t15, RBox none 0 0 0 0 none 0 0)] [fun W => FlM W th q ch hs, fun W => FlM W tb m cb xs, fun W => FlM W ta n ca zs]) := frq_perm HQ.out (by simp) (by have hn := HQ.out.nod; simp only [List.map_cons, List.map_nil, List.nodup_cons, List.mem_cons, List.not_mem_nil, or_false, not_false_iff, List.nodup_nil, and_true] at hn ⊢; omega) (by simp)
            have hfin := HS2ab.out X ta ca tb cb th ch t15 t16 HQ
            rw [hG.out, hA.out] at hfin
            simp only [Act.put, List.setIfInBounds_toArray, List.set_cons_zero, List.set_cons_succ] at hfin
            exact hfin
        have HS2b : Hid (∀ (W : World) (ta : Option Addr) (ca : Nat) (tb : Option Addr) (cb : Nat) (th : Option Addr) (ch : Nat) (t16 : Nat), Hid (FrQ u8 W [(t16, StBox 0 0 0 none 0 0)] [fun W => FlM W th q ch hs, fun W => FlM W tb m cb xs, fun W => FlM W ta n ca zs]) → G 11 #[true, true, true, true, true, true, true, true, false, true, true, false, false, false, false, false, false, false, true, false, false, false] (Act.put (Act.put (Act.put (A0) (some 84) (.agg #[.slice ta n ca, .int .i64 r, .int .i64 c, .slice tb m cb])) (some 87) (.slice th q ch)) (some 16) (.pointer (some ⟨t16, 0, none⟩))) W) := fun W ta ca tb cb th ch t16 HQ => by
          rw [hG.out, hA.out]
          simp only [Act.put, List.setIfInBounds_toArray, List.set_cons_zero, List.set_cons_succ]
          refine wpAnyH_ready (rs := [8, 17]) (by kernel_rfl) (by simp) ?_
          refine AllReadyH.cons (o := _) rfl (fun K hK => ?_) (AllReadyH.cons (o := _) rfl (fun K hK => ?_) AllReadyH.nil)
          · go_simp
            refine (HFR2.out W).mono ?_
            rintro e X ⟨rfl, hb⟩
            have HQ := hid (HQ.out.call hb)
            clear hb
            go_wp2_with fail
            refine hK.out _ _ (HKT.out _ HQ.out.bel) (fun hHeld => ?_)
            clear hK K
            try simp only [List.setIfInBounds_toArray, List.set_cons_zero, List.set_cons_succ]
            have hfin := HS3b.out X ta ca tb cb th ch t16 HQ
            rw [hG.out, hA.out] at hfin
            simp only [Act.put, List.setIfInBounds_toArray, List.set_cons_zero, List.set_cons_succ] at hfin
            exact hfin
          · go_simp
            go_wp2_with fail
            have HQ := hid (HQ.out.alloc (RBox none 0 0 0 0 none 0 0))
            refine hK.out _ _ (HKT.out _ HQ.out.bel) (fun hHeld => ?_)
            clear hK K
            try simp only [List.setIfInBounds_toArray, List.set_cons_zero, List.set_cons_succ]
            obtain ⟨X, hX, HQ⟩ := frq_name HQ.out
            obtain ⟨t15, ht15, HQ⟩ := frq_head HQ.out
            have hy := hX.out
            unfold RBox at hy
            have hz := ht15.out
            rw [hy, hz]
            clear hy
            clear hz
            have HQ : Hid (FrQ u8 X [(t16, StBox 0 0 0 none 0 0), (t15, RBox none 0 0 0 0 none 0 0)] [fun W => FlM W th q ch hs, fun W => FlM W tb m cb xs, fun W => FlM W ta n ca zs]) := frq_perm HQ.out (by simp) (by have hn := HQ.out.nod; simp only [List.map_cons, List.map_nil, List.nodup_cons, List.mem_cons, List.not_mem_nil, or_false, not_false_iff, List.nodup_nil, and_true] at hn ⊢; omega) (by simp)
            have hfin := HS2ab.out X ta ca tb cb th ch t15 t16 HQ
            rw [hG.out, hA.out] at hfin
            simp only [Act.put, List.setIfInBounds_toArray, List.set_cons_zero, List.set_cons_succ] at hfin
            exact hfin
        have HS1ab : Hid (∀ (W : World) (ta : Option Addr) (ca : Nat) (tb : Option Addr) (cb : Nat) (t15 t16 : Nat), Hid (FrQ u8 W [(t16, StBox 0 0 0 none 0 0), (t15, RBox none 0 0 0 0 none 0 0)] [fun W => FlM W tb m cb xs, fun W => FlM W ta n ca zs]) → G 11 #[true, true, true, true, true, false, true, true, false, true, true, false, false, false, false, false, false, true, true, false, false, false] (Act.put (Act.put (Act.put (A0) (some 84) (.agg #[.slice ta n ca, .int .i64 r, .int .i64 c, .slice tb m cb])) (some 15) (.pointer (some ⟨t15, 0, none⟩))) (some 16) (.pointer (some ⟨t16, 0, none⟩))) W) := fun W ta ca tb cb t15 t16 HQ => by
          rw [hG.out, hA.out]
          simp only [Act.put, List.setIfInBounds_toArray, List.set_cons_zero, List.set_cons_succ]
          refine wpAnyH_ready (rs := [5]) (by kernel_rfl) (by simp) ?_
          refine AllReadyH.cons (o := _) rfl (fun K hK => ?_) AllReadyH.nil
          go_simp
          refine (HL5.out W HQ.out.bel).mono ?_
          rintro e X ⟨⟨th, ch, rfl, hh⟩, hb⟩
          have HQ := hid (HQ.out.call hb)
          have HQ := hid (HQ.out.add (g := fun W => FlM W th q ch hs) (kept_fl _ _ _ _) hh)
          clear hb
          go_wp2_with fail
          refine hK.out _ _ (HKT.out _ HQ.out.bel) (fun hHeld => ?_)
          clear hK K
          try simp only [List.setIfInBounds_toArray, List.set_cons_zero, List.set_cons_succ]
          have hfin := HS2ab.out X ta ca tb cb th ch t15 t16 HQ
          rw [hG.out, hA.out] at hfin
          simp only [Act.put, List.setIfInBounds_toArray, List.set_cons_zero, List.set_cons_succ] at hfin
          exact hfin
        clear HS4 HS3a HS3b HS2ab
        have HS2 : Hid (∀ (W : World) (ta : Option Addr) (ca : Nat) (tb : Option Addr) (cb : Nat) (th : Option Addr) (ch : Nat) , Hid (FrQ u8 W [] [fun W => FlM W th q ch hs, fun W => FlM W tb m cb xs, fun W => FlM W ta n ca zs]) → G 12 #[true, true, true, true, true, true, true, true, false, true, true, false, false, false, false, false, false, false, false, false, false, false] (Act.put (Act.put (A0) (some 84) (.agg #[.slice ta n ca, .int .i64 r, .int .i64 c, .slice tb m cb])) (some 87) (.slice th q ch)) W) := fun W ta ca tb cb th ch HQ => by
          rw [hG.out, hA.out]
          simp only [Act.put, List.setIfInBounds_toArray, List.set_cons_zero, List.set_cons_succ]
          refine wpAnyH_ready (rs := [8, 17, 18]) (by kernel_rfl) (by simp) ?_
          refine AllReadyH.cons (o := _) rfl (fun K hK => ?_) (AllReadyH.cons (o := _) rfl (fun K hK => ?_) (AllReadyH.cons (o := _) rfl (fun K hK => ?_) AllReadyH.nil))
          · go_simp
            refine (HFR2.out W).mono ?_
            rintro e X ⟨rfl, hb⟩
            have HQ := hid (HQ.out.call hb)
            clear hb
            go_wp2_with fail
            refine hK.out _ _ (HKT.out _ HQ.out.bel) (fun hHeld => ?_)
            clear hK K
            try simp only [List.setIfInBounds_toArray, List.set_cons_zero, List.set_cons_succ]
            have hfin := HS3.out X ta ca tb cb th ch HQ
            rw [hG.out, hA.out] at hfin
            simp only [Act.put, List.setIfInBounds_toArray, List.set_cons_zero, List.set_cons_succ] at hfin
            exact hfin
          · go_simp
            go_wp2_with fail
            have HQ := hid (HQ.out.alloc (RBox none 0 0 0 0 none 0 0))
            refine hK.out _ _ (HKT.out _ HQ.out.bel) (fun hHeld => ?_)
            clear hK K
            try simp only [List.setIfInBounds_toArray, List.set_cons_zero, List.set_cons_succ]
            obtain ⟨X, hX, HQ⟩ := frq_name HQ.out
            obtain ⟨t15, ht15, HQ⟩ := frq_head HQ.out
            have hy := hX.out
            unfold RBox at hy
            have hz := ht15.out
            rw [hy, hz]
            clear hy
            clear hz
            have HQ : Hid (FrQ u8 X [(t15, RBox none 0 0 0 0 none 0 0)] [fun W => FlM W th q ch hs, fun W => FlM W tb m cb xs, fun W => FlM W ta n ca zs]) := frq_perm HQ.out (by simp) (by simp) (by simp)
            have hfin := HS2a.out X ta ca tb cb th ch t15 HQ
            rw [hG.out, hA.out] at hfin
            simp only [Act.put, List.setIfInBounds_toArray, List.set_cons_zero, List.set_cons_succ] at hfin
            exact hfin
          · go_simp
            go_wp2_with fail
            have HQ := hid (HQ.out.alloc (StBox 0 0 0 none 0 0))
            refine hK.out _ _ (HKT.out _ HQ.out.bel) (fun hHeld => ?_)
            clear hK K
            try simp only [List.setIfInBounds_toArray, List.set_cons_zero, List.set_cons_succ]
            obtain ⟨X, hX, HQ⟩ := frq_name HQ.out
            obtain ⟨t16, ht16, HQ⟩ := frq_head HQ.out
            have hy := hX.out
            unfold StBox at hy
            have hz := ht16.out
            rw [hy, hz]
            clear hy
            clear hz
            have HQ : Hid (FrQ u8 X [(t16, StBox 0 0 0 none 0 0)] [fun W => FlM W th q ch hs, fun W => FlM W tb m cb xs, fun W => FlM W ta n ca zs]) := frq_perm HQ.out (by simp) (by simp) (by simp)
            have hfin := HS2b.out X ta ca tb cb th ch t16 HQ
            rw [hG.out, hA.out] at hfin
            simp only [Act.put, List.setIfInBounds_toArray, List.set_cons_zero, List.set_cons_succ] at hfin
            exact hfin
        have HS1a : Hid (∀ (W : World) (ta : Option Addr) (ca : Nat) (tb : Option Addr) (cb : Nat) (t15 : Nat), Hid (FrQ u8 W [(t15, RBox none 0 0 0 0 none 0 0)] [fun W => FlM W tb m cb xs, fun W => FlM W ta n ca zs]) → G 12 #[true, true, true, true, true, false, true, true, false, true, true, false, false, false, false, false, false, true, false, false, false, false] (Act.put (Act.put (A0) (some 84) (.agg #[.slice ta n ca, .int .i64 r, .int .i64 c, .slice tb m cb])) (some 15) (.pointer (some ⟨t15, 0, none⟩))) W) := fun W ta ca tb cb t15 HQ => by
          rw [hG.out, hA.out]
          simp only [Act.put, List.setIfInBounds_toArray, List.set_cons_zero, List.set_cons_succ]
          refine wpAnyH_ready (rs := [5, 18]) (by kernel_rfl) (by simp) ?_
          refine AllReadyH.cons (o := _) rfl (fun K hK => ?_) (AllReadyH.cons (o := _) rfl (fun K hK => ?_) AllReadyH.nil)
          · go_simp
            refine (HL5.out W HQ.out.bel).mono ?_
            rintro e X ⟨⟨th, ch, rfl, hh⟩, hb⟩
            have HQ := hid (HQ.out.call hb)
            have HQ := hid (HQ.out.add (g := fun W => FlM W th q ch hs) (kept_fl _ _ _ _) hh)
            clear hb
            go_wp2_with fail
            refine hK.out _ _ (HKT.out _ HQ.out.bel) (fun hHeld => ?_)
            clear hK K
            try simp only [List.setIfInBounds_toArray, List.set_cons_zero, List.set_cons_succ]
            have hfin := HS2a.out X ta ca tb cb th ch t15 HQ
            rw [hG.out, hA.out] at hfin
            simp only [Act.put, List.setIfInBounds_toArray, List.set_cons_zero, List.set_cons_succ] at hfin
            exact hfin
          · go_simp
            go_wp2_with fail
            have HQ := hid (HQ.out.alloc (StBox 0 0 0 none 0 0))
            refine hK.out _ _ (HKT.out _ HQ.out.bel) (fun hHeld => ?_)
            clear hK K
            try simp only [List.setIfInBounds_toArray, List.set_cons_zero, List.set_cons_succ]
            obtain ⟨X, hX, HQ⟩ := frq_name HQ.out
            obtain ⟨t16, ht16, HQ⟩ := frq_head HQ.out
            have hy := hX.out
            unfold StBox at hy
            have hz := ht16.out
            rw [hy, hz]
            clear hy
            clear hz
            have HQ : Hid (FrQ u8 X [(t16, StBox 0 0 0 none 0 0), (t15, RBox none 0 0 0 0 none 0 0)] [fun W => FlM W tb m cb xs, fun W => FlM W ta n ca zs]) := frq_perm HQ.out (by simp) (by have hn := HQ.out.nod; simp only [List.map_cons, List.map_nil, List.nodup_cons, List.mem_cons, List.not_mem_nil, or_false, not_false_iff, List.nodup_nil, and_true] at hn ⊢; omega) (by simp)
            have hfin := HS1ab.out X ta ca tb cb t15 t16 HQ
            rw [hG.out, hA.out] at hfin
            simp only [Act.put, List.setIfInBounds_toArray, List.set_cons_zero, List.set_cons_succ] at hfin
            exact hfin
        have HS1b : Hid (∀ (W : World) (ta : Option Addr) (ca : Nat) (tb : Option Addr) (cb : Nat) (t16 : Nat), Hid (FrQ u8 W [(t16, StBox 0 0 0 none 0 0)] [fun W => FlM W tb m cb xs, fun W => FlM W ta n ca zs]) → G 12 #[true, true, true, true, true, false, true, true, false, true, true, false, false, false, false, false, false, false, true, false, false, false] (Act.put (Act.put (A0) (some 84) (.agg #[.slice ta n ca, .int .i64 r, .int .i64 c, .slice tb m cb])) (some 16) (.pointer (some ⟨t16, 0, none⟩))) W) := fun W ta ca tb cb t16 HQ => by
          rw [hG.out, hA.out]
          simp only [Act.put, List.setIfInBounds_toArray, List.set_cons_zero, List.set_cons_succ]
          refine wpAnyH_ready (rs := [5, 17]) (by kernel_rfl) (by simp) ?_
          refine AllReadyH.cons (o := _) rfl (fun K hK => ?_) (AllReadyH.cons (o := _) rfl (fun K hK => ?_) AllReadyH.nil)
          · go_simp
            refine (HL5.out W HQ.out.bel).mono ?_
            rintro e X ⟨⟨th, ch, rfl, hh⟩, hb⟩
            have HQ := hid (HQ.out.call hb)
            have HQ := hid (HQ.out.add (g := fun W => FlM W th q ch hs) (kept_fl _ _ _ _) hh)
            clear hb
            go_wp2_with fail
            refine hK.out _ _ (HKT.out _ HQ.out.bel) (fun hHeld => ?_)
            clear hK K
            try simp only [List.setIfInBounds_toArray, List.set_cons_zero, List.set_cons_succ]
            have hfin := HS2b.out X ta ca tb cb th ch t16 HQ
            rw [hG.out, hA.out] at hfin
            simp only [Act.put, List.setIfInBounds_toArray, List.set_cons_zero, List.set_cons_succ] at hfin
            exact hfin
          · go_simp
            go_wp2_with fail
            have HQ := hid (HQ.out.alloc (RBox none 0 0 0 0 none 0 0))
            refine hK.out _ _ (HKT.out _ HQ.out.bel) (fun hHeld => ?_)
            clear hK K
            try simp only [List.setIfInBounds_toArray, List.set_cons_zero, List.set_cons_succ]
            obtain ⟨X, hX, HQ⟩ := frq_name HQ.out
            obtain ⟨t15, ht15, HQ⟩ := frq_head HQ.out
            have hy := hX.out
            unfold RBox at hy
            have hz := ht15.out
            rw [hy, hz]
            clear hy
            clear hz
            have HQ : Hid (FrQ u8 X [(t16, StBox 0 0 0 none 0 0), (t15, RBox none 0 0 0 0 none 0 0)] [fun W => FlM W tb m cb xs, fun W => FlM W ta n ca zs]) := frq_perm HQ.out (by simp) (by have hn := HQ.out.nod; simp only [List.map_cons, List.map_nil, List.nodup_cons, List.mem_cons, List.not_mem_nil, or_false, not_false_iff, List.nodup_nil, and_true] at hn ⊢; omega) (by simp)
            have hfin := HS1ab.out X ta ca tb cb t15 t16 HQ
            rw [hG.out, hA.out] at hfin
            simp only [Act.put, List.setIfInBounds_toArray, List.set_cons_zero, List.set_cons_succ] at hfin
            exact hfin
        have HS0ab : Hid (∀ (W : World) (t15 t16 : Nat), Hid (FrQ u8 W [(t16, StBox 0 0 0 none 0 0), (t15, RBox none 0 0 0 0 none 0 0)] []) → G 12 #[true, true, false, true, true, false, true, true, false, true, true, false, false, false, false, false, false, true, true, false, false, false] (Act.put (Act.put (A0) (some 15) (.pointer (some ⟨t15, 0, none⟩))) (some 16) (.pointer (some ⟨t16, 0, none⟩))) W) := fun W t15 t16 HQ => by
          rw [hG.out, hA.out]
          simp only [Act.put, List.setIfInBounds_toArray, List.set_cons_zero, List.set_cons_succ]
          refine wpAnyH_ready (rs := [2]) (by kernel_rfl) (by simp) ?_
          refine AllReadyH.cons (o := _) rfl (fun K hK => ?_) AllReadyH.nil
          go_simp
          refine (HOF5.out W HQ.out.bel).mono ?_
          rintro e X ⟨⟨ta, ca, tb, cb, rfl, hf1, hf2⟩, hb⟩
          have HQ := hid (HQ.out.call hb)
          have HQ := hid (HQ.out.add (g := fun W => FlM W ta n ca zs) (kept_fl _ _ _ _) hf1)
          have HQ := hid (HQ.out.add (g := fun W => FlM W tb m cb xs) (kept_fl _ _ _ _) hf2)
          clear hb
          go_wp2_with fail
          refine hK.out _ _ (HKT.out _ HQ.out.bel) (fun hHeld => ?_)
          clear hK K
          try simp only [List.setIfInBounds_toArray, List.set_cons_zero, List.set_cons_succ]
          have hfin := HS1ab.out X ta ca tb cb t15 t16 HQ
          rw [hG.out, hA.out] at hfin
          simp only [Act.put, List.setIfInBounds_toArray, List.set_cons_zero, List.set_cons_succ] at hfin
          exact hfin
        clear HS3 HS2a HS2b HS1ab
        have HS1 : Hid (∀ (W : World) (ta : Option Addr) (ca : Nat) (tb : Option Addr) (cb : Nat) , Hid (FrQ u8 W [] [fun W => FlM W tb m cb xs, fun W => FlM W ta n ca zs]) → G 13 #[true, true, true, true, true, false, true, true, false, true, true, false, false, false, false, false, false, false, false, false, false, false] (Act.put (A0) (some 84) (.agg #[.slice ta n ca, .int .i64 r, .int .i64 c, .slice tb m cb])) W) := fun W ta ca tb cb HQ => by
          rw [hG.out, hA.out]
          simp only [Act.put, List.setIfInBounds_toArray, List.set_cons_zero, List.set_cons_succ]
          refine wpAnyH_ready (rs := [5, 17, 18]) (by kernel_rfl) (by simp) ?_
          refine AllReadyH.cons (o := _) rfl (fun K hK => ?_) (AllReadyH.cons (o := _) rfl (fun K hK => ?_) (AllReadyH.cons (o := _) rfl (fun K hK => ?_) AllReadyH.nil))
          · go_simp
            refine (HL5.out W HQ.out.bel).mono ?_
            rintro e X ⟨⟨th, ch, rfl, hh⟩, hb⟩
            have HQ := hid (HQ.out.call hb)
            have HQ := hid (HQ.out.add (g := fun W => FlM W th q ch hs) (kept_fl _ _ _ _) hh)
            clear hb
            go_wp2_with fail
            refine hK.out _ _ (HKT.out _ HQ.out.bel) (fun hHeld => ?_)
            clear hK K
            try simp only [List.setIfInBounds_toArray, List.set_cons_zero, List.set_cons_succ]
            have hfin := HS2.out X ta ca tb cb th ch HQ
            rw [hG.out, hA.out] at hfin
            simp only [Act.put, List.setIfInBounds_toArray, List.set_cons_zero, List.set_cons_succ] at hfin
            exact hfin
          · go_simp
            go_wp2_with fail
            have HQ := hid (HQ.out.alloc (RBox none 0 0 0 0 none 0 0))
            refine hK.out _ _ (HKT.out _ HQ.out.bel) (fun hHeld => ?_)
            clear hK K
            try simp only [List.setIfInBounds_toArray, List.set_cons_zero, List.set_cons_succ]
            obtain ⟨X, hX, HQ⟩ := frq_name HQ.out
            obtain ⟨t15, ht15, HQ⟩ := frq_head HQ.out
            have hy := hX.out
            unfold RBox at hy
            have hz := ht15.out
            rw [hy, hz]
            clear hy
            clear hz
            have HQ : Hid (FrQ u8 X [(t15, RBox none 0 0 0 0 none 0 0)] [fun W => FlM W tb m cb xs, fun W => FlM W ta n ca zs]) := frq_perm HQ.out (by simp) (by simp) (by simp)
            have hfin := HS1a.out X ta ca tb cb t15 HQ
            rw [hG.out, hA.out] at hfin
            simp only [Act.put, List.setIfInBounds_toArray, List.set_cons_zero, List.set_cons_succ] at hfin
            exact hfin
          · go_simp
            go_wp2_with fail
            have HQ := hid (HQ.out.alloc (StBox 0 0 0 none 0 0))
            refine hK.out _ _ (HKT.out _ HQ.out.bel) (fun hHeld => ?_)
            clear hK K
            try simp only [List.setIfInBounds_toArray, List.set_cons_zero, List.set_cons_succ]
            obtain ⟨X, hX, HQ⟩ := frq_name HQ.out
            obtain ⟨t16, ht16, HQ⟩ := frq_head HQ.out
            have hy := hX.out
            unfold StBox at hy
            have hz := ht16.out
            rw [hy, hz]
            clear hy
            clear hz
            have HQ : Hid (FrQ u8 X [(t16, StBox 0 0 0 none 0 0)] [fun W => FlM W tb m cb xs, fun W => FlM W ta n ca zs]) := frq_perm HQ.out (by simp) (by simp) (by simp)
            have hfin := HS1b.out X ta ca tb cb t16 HQ
            rw [hG.out, hA.out] at hfin
            simp only [Act.put, List.setIfInBounds_toArray, List.set_cons_zero, List.set_cons_succ] at hfin
            exact hfin
        have HS0a : Hid (∀ (W : World) (t15 : Nat), Hid (FrQ u8 W [(t15, RBox none 0 0 0 0 none 0 0)] []) → G 13 #[true, true, false, true, true, false, true, true, false, true, true, false, false, false, false, false, false, true, false, false, false, false] (Act.put (A0) (some 15) (.pointer (some ⟨t15, 0, none⟩))) W) := fun W t15 HQ => by
          rw [hG.out, hA.out]
          simp only [Act.put, List.setIfInBounds_toArray, List.set_cons_zero, List.set_cons_succ]
          refine wpAnyH_ready (rs := [2, 18]) (by kernel_rfl) (by simp) ?_
          refine AllReadyH.cons (o := _) rfl (fun K hK => ?_) (AllReadyH.cons (o := _) rfl (fun K hK => ?_) AllReadyH.nil)
          · go_simp
            refine (HOF5.out W HQ.out.bel).mono ?_
            rintro e X ⟨⟨ta, ca, tb, cb, rfl, hf1, hf2⟩, hb⟩
            have HQ := hid (HQ.out.call hb)
            have HQ := hid (HQ.out.add (g := fun W => FlM W ta n ca zs) (kept_fl _ _ _ _) hf1)
            have HQ := hid (HQ.out.add (g := fun W => FlM W tb m cb xs) (kept_fl _ _ _ _) hf2)
            clear hb
            go_wp2_with fail
            refine hK.out _ _ (HKT.out _ HQ.out.bel) (fun hHeld => ?_)
            clear hK K
            try simp only [List.setIfInBounds_toArray, List.set_cons_zero, List.set_cons_succ]
            have hfin := HS1a.out X ta ca tb cb t15 HQ
            rw [hG.out, hA.out] at hfin
            simp only [Act.put, List.setIfInBounds_toArray, List.set_cons_zero, List.set_cons_succ] at hfin
            exact hfin
          · go_simp
            go_wp2_with fail
            have HQ := hid (HQ.out.alloc (StBox 0 0 0 none 0 0))
            refine hK.out _ _ (HKT.out _ HQ.out.bel) (fun hHeld => ?_)
            clear hK K
            try simp only [List.setIfInBounds_toArray, List.set_cons_zero, List.set_cons_succ]
            obtain ⟨X, hX, HQ⟩ := frq_name HQ.out
            obtain ⟨t16, ht16, HQ⟩ := frq_head HQ.out
            have hy := hX.out
            unfold StBox at hy
            have hz := ht16.out
            rw [hy, hz]
            clear hy
            clear hz
            have HQ : Hid (FrQ u8 X [(t16, StBox 0 0 0 none 0 0), (t15, RBox none 0 0 0 0 none 0 0)] []) := frq_perm HQ.out (by simp) (by have hn := HQ.out.nod; simp only [List.map_cons, List.map_nil, List.nodup_cons, List.mem_cons, List.not_mem_nil, or_false, not_false_iff, List.nodup_nil, and_true] at hn ⊢; omega) (by simp)
            have hfin := HS0ab.out X t15 t16 HQ
            rw [hG.out, hA.out] at hfin
            simp only [Act.put, List.setIfInBounds_toArray, List.set_cons_zero, List.set_cons_succ] at hfin
            exact hfin
        have HS0b : Hid (∀ (W : World) (t16 : Nat), Hid (FrQ u8 W [(t16, StBox 0 0 0 none 0 0)] []) → G 13 #[true, true, false, true, true, false, true, true, false, true, true, false, false, false, false, false, false, false, true, false, false, false] (Act.put (A0) (some 16) (.pointer (some ⟨t16, 0, none⟩))) W) := fun W t16 HQ => by
          rw [hG.out, hA.out]
          simp only [Act.put, List.setIfInBounds_toArray, List.set_cons_zero, List.set_cons_succ]
          refine wpAnyH_ready (rs := [2, 17]) (by kernel_rfl) (by simp) ?_
          refine AllReadyH.cons (o := _) rfl (fun K hK => ?_) (AllReadyH.cons (o := _) rfl (fun K hK => ?_) AllReadyH.nil)
          · go_simp
            refine (HOF5.out W HQ.out.bel).mono ?_
            rintro e X ⟨⟨ta, ca, tb, cb, rfl, hf1, hf2⟩, hb⟩
            have HQ := hid (HQ.out.call hb)
            have HQ := hid (HQ.out.add (g := fun W => FlM W ta n ca zs) (kept_fl _ _ _ _) hf1)
            have HQ := hid (HQ.out.add (g := fun W => FlM W tb m cb xs) (kept_fl _ _ _ _) hf2)
            clear hb
            go_wp2_with fail
            refine hK.out _ _ (HKT.out _ HQ.out.bel) (fun hHeld => ?_)
            clear hK K
            try simp only [List.setIfInBounds_toArray, List.set_cons_zero, List.set_cons_succ]
            have hfin := HS1b.out X ta ca tb cb t16 HQ
            rw [hG.out, hA.out] at hfin
            simp only [Act.put, List.setIfInBounds_toArray, List.set_cons_zero, List.set_cons_succ] at hfin
            exact hfin
          · go_simp
            go_wp2_with fail
            have HQ := hid (HQ.out.alloc (RBox none 0 0 0 0 none 0 0))
            refine hK.out _ _ (HKT.out _ HQ.out.bel) (fun hHeld => ?_)
            clear hK K
            try simp only [List.setIfInBounds_toArray, List.set_cons_zero, List.set_cons_succ]
            obtain ⟨X, hX, HQ⟩ := frq_name HQ.out
            obtain ⟨t15, ht15, HQ⟩ := frq_head HQ.out
            have hy := hX.out
            unfold RBox at hy
            have hz := ht15.out
            rw [hy, hz]
            clear hy
            clear hz
            have HQ : Hid (FrQ u8 X [(t16, StBox 0 0 0 none 0 0), (t15, RBox none 0 0 0 0 none 0 0)] []) := frq_perm HQ.out (by simp) (by have hn := HQ.out.nod; simp only [List.map_cons, List.map_nil, List.nodup_cons, List.mem_cons, List.not_mem_nil, or_false, not_false_iff, List.nodup_nil, and_true] at hn ⊢; omega) (by simp)
            have hfin := HS0ab.out X t15 t16 HQ
            rw [hG.out, hA.out] at hfin
            simp only [Act.put, List.setIfInBounds_toArray, List.set_cons_zero, List.set_cons_succ] at hfin
            exact hfin
        clear HS2 HS1a HS1b HS0ab
        have HS0 : Hid (∀ (W : World) , Hid (FrQ u8 W [] []) → G 14 #[true, true, false, true, true, false, true, true, false, true, true, false, false, false, false, false, false, false, false, false, false, false] (A0) W) := fun W  HQ => by
          rw [hG.out, hA.out]
          refine wpAnyH_ready (rs := [2, 17, 18]) (by kernel_rfl) (by simp) ?_
          refine AllReadyH.cons (o := _) rfl (fun K hK => ?_) (AllReadyH.cons (o := _) rfl (fun K hK => ?_) (AllReadyH.cons (o := _) rfl (fun K hK => ?_) AllReadyH.nil))
          · go_simp
            refine (HOF5.out W HQ.out.bel).mono ?_
            rintro e X ⟨⟨ta, ca, tb, cb, rfl, hf1, hf2⟩, hb⟩
            have HQ := hid (HQ.out.call hb)
            have HQ := hid (HQ.out.add (g := fun W => FlM W ta n ca zs) (kept_fl _ _ _ _) hf1)
            have HQ := hid (HQ.out.add (g := fun W => FlM W tb m cb xs) (kept_fl _ _ _ _) hf2)
            clear hb
            go_wp2_with fail
            refine hK.out _ _ (HKT.out _ HQ.out.bel) (fun hHeld => ?_)
            clear hK K
            try simp only [List.setIfInBounds_toArray, List.set_cons_zero, List.set_cons_succ]
            have hfin := HS1.out X ta ca tb cb HQ
            rw [hG.out, hA.out] at hfin
            simp only [Act.put, List.setIfInBounds_toArray, List.set_cons_zero, List.set_cons_succ] at hfin
            exact hfin
          · go_simp
            go_wp2_with fail
            have HQ := hid (HQ.out.alloc (RBox none 0 0 0 0 none 0 0))
            refine hK.out _ _ (HKT.out _ HQ.out.bel) (fun hHeld => ?_)
            clear hK K
            try simp only [List.setIfInBounds_toArray, List.set_cons_zero, List.set_cons_succ]
            obtain ⟨X, hX, HQ⟩ := frq_name HQ.out
            obtain ⟨t15, ht15, HQ⟩ := frq_head HQ.out
            have hy := hX.out
            unfold RBox at hy
            have hz := ht15.out
            rw [hy, hz]
            clear hy
            clear hz
            have HQ : Hid (FrQ u8 X [(t15, RBox none 0 0 0 0 none 0 0)] []) := frq_perm HQ.out (by simp) (by simp) (by simp)
            have hfin := HS0a.out X t15 HQ
            rw [hG.out, hA.out] at hfin
            simp only [Act.put, List.setIfInBounds_toArray, List.set_cons_zero, List.set_cons_succ] at hfin
            exact hfin
          · go_simp
            go_wp2_with fail
            have HQ := hid (HQ.out.alloc (StBox 0 0 0 none 0 0))
            refine hK.out _ _ (HKT.out _ HQ.out.bel) (fun hHeld => ?_)
            clear hK K
            try simp only [List.setIfInBounds_toArray, List.set_cons_zero, List.set_cons_succ]
            obtain ⟨X, hX, HQ⟩ := frq_name HQ.out
            obtain ⟨t16, ht16, HQ⟩ := frq_head HQ.out
            have hy := hX.out
            unfold StBox at hy
            have hz := ht16.out
            rw [hy, hz]
            clear hy
            clear hz
            have HQ : Hid (FrQ u8 X [(t16, StBox 0 0 0 none 0 0)] []) := frq_perm HQ.out (by simp) (by simp) (by simp)
            have hfin := HS0b.out X t16 HQ
            rw [hG.out, hA.out] at hfin
            simp only [Act.put, List.setIfInBounds_toArray, List.set_cons_zero, List.set_cons_succ] at hfin
            exact hfin
        exact HS0.out _ HQ0
    · rintro a' u9 ⟨ta, ca, tb, cb, th, ch, t15, t16, uxv, k1v, k2v, r1v, c1v, ulv, k3v, k4v, Yv, Av, S1v, ugv, k5v, k6v, rfl, hb, hh1, hh2, hup⟩
      simp only [Act.put, List.setIfInBounds_toArray, List.set_cons_zero, List.set_cons_succ]
      have q9 : Hid (Below w.heap.size w u9 ∧ u9.heap[p4]? = some (B6Box r c sm m km) ∧ u9.heap[p5]? = some (R6Box wh q wk R Z)) := ⟨q8.out.1.trans (hb.mono q8.out.1.size), blkM q8.out.2.1 hb, blkM q8.out.2.2 hb⟩
      have Ht15 := hid hh1
      have Ht16 := hid hh2
      have HUKv := hid hup
      have Ht13b := hid (blkM Ht13.out hb)
      have Ht14b := hid (blkM Ht14.out hb)
      have HUKub := hid (HUKu.out.below hb)
      clear hb hh1 hh2 hup HOF5 HL5 HKT HQ0
      obtain ⟨c0, c1x, c2, c3⟩ := rcells_of Ht13b.out
      obtain ⟨d0, d1, d2, d3⟩ := rcells_of Ht15.out
      have HTD := hid (told_both HUKub.out HUKv.out)
      go_wp2_with fail
      refine HTD.out.mono ?_
      rintro e ua ⟨rfl, hb⟩
      have qa : Hid (Below w.heap.size w ua) := q9.out.1.trans (hb.mono q9.out.1.size)
      obtain ⟨c0, c1x, c2, c3⟩ := scells_of (blkM Ht14b.out hb)
      obtain ⟨d0, d1, d2, d3⟩ := scells_of (blkM Ht16.out hb)
      have HST := hid (step_both (HUKub.out.below hb) (HUKv.out.below hb))
      clear hb
      go_wp2_with fail
      refine HST.out.mono ?_
      rintro e uc ⟨rfl, hb⟩
      have qc : Hid (Below w.heap.size w uc) := qa.out.trans (hb.mono qa.out.size)
      clear hb
      go_wp2_with fail
      go_ret
      first | exact ⟨rfl, qc.out⟩ | exact ⟨rfl, hp4.out ▸ qc.out⟩
end Go.Proofs.Ythakhmnlpmfdgaa
