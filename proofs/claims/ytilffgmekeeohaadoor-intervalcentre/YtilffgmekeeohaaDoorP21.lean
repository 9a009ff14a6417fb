
/- interval's Mid: within the ends. -/
import Derived.Test.YtilffgmekeeohaaDoorP20
import Derived.Test.YtilffgmekeeohaaDoorP19
namespace Go.Proofs.YtilffgmekeeohaaDoor
open Go.RowKit Go.IntWalk

/-- A box of two ends. -/
def BY (W : World) (n p q : Nat) : Prop := W.heap[n]? = some (IBox p q)
theorem BY.cells {W : World} {n p q : Nat} (h : BY W n p q) : W.cell? ⟨n, 0, none⟩ = some (.float .f64 p) ∧ W.cell? ⟨n, 1, none⟩ = some (.float .f64 q) ∧ (∀ o, W.frozen? ⟨n, o, none⟩ = false) := icells_of (show W.heap[n]? = some (.cells #[.float .f64 p, .float .f64 q] 28) from h)
theorem BY.keep {W W' : World} {n p q : Nat} (h : BY W n p q) (k : Below W.heap.size W W') : BY W' n p q := keepH (Below.keepH k) h
theorem BY.put {W : World} {n p q : Nat} (h : BY W n p q) (r s : Nat) : BY ((W.setCell ⟨n, 0, none⟩ (.float .f64 r)).setCell ⟨n, 1, none⟩ (.float .f64 s)) n r s := by
  have h' : W.heap[n]? = some (.cells #[.float .f64 p, .float .f64 q] 28) := h
  show _ = some (IBox r s)
  simp [World.setCell, Array.getElem?_modify, h', IBox]
/-- The frame of a function whose one argument, an interval, is taken: its own block, and what calls leave of it. -/
theorem fr6 {f : FuncId} {args : Array Value} {R : Ending} (X : World) (n p q : Nat) (hX : BY X n p q) (h : ∀ W, Calls Tryd.prog f args W fun r w' => r = R ∧ Below W.heap.size W w') (W : World) (hW : Hid (Below X.heap.size X W)) : Calls Tryd.prog f args W fun r w' => r = R ∧ (w'.cell? ⟨n, 0, none⟩ = some (.float .f64 p) ∧ w'.cell? ⟨n, 1, none⟩ = some (.float .f64 q)) ∧ Hid (Below X.heap.size X w') := by
  refine (h W).mono ?_
  rintro r w' ⟨rfl, hb⟩
  have hk : Below X.heap.size X w' := hW.out.trans (hb.mono hW.out.size)
  obtain ⟨c0, c1, _⟩ := (hX.keep hk).cells
  exact ⟨rfl, ⟨c0, c1⟩, hk⟩
theorem same_w {f : FuncId} {args : Array Value} {R : Ending} (h : ∀ W, Calls Tryd.prog f args W fun r w' => r = R ∧ w' = W) (W : World) : Calls Tryd.prog f args W fun r w' => r = R ∧ Below W.heap.size W w' := by
  refine (h W).mono ?_
  rintro r w' ⟨rfl, rfl⟩
  exact ⟨rfl, Below.refl _ _⟩
set_option maxHeartbeats 2000000 in
theorem Mid_none (lo hi : Nat) (w : World) (hN : noneB (btLo lo hi) (btHi lo hi) = true) : Calls Tryd.prog 6 #[IV lo hi] w fun r w' => r = .returned (.float .f64 9221120237041090561) ∧ Below w.heap.size w w' := by
  have g1 := inew w (IBox lo hi)
  have HB0 : Hid (Below w.heap.size w (w.alloc (IBox lo hi))) := (Below.refl _ _).alloc (Nat.le_refl _) _
  obtain ⟨W0, hW0⟩ : ∃ V, Hid (w.alloc (IBox lo hi) = V) := ⟨_, rfl⟩
  rw [hW0.out] at g1 HB0
  have HT := hid (taken_any lo hi W0)
  have HP : Hid (∀ W, Below W0.heap.size W0 W → BY ((W.setCell ⟨w.heap.size, 0, none⟩ (.float .f64 (btLo lo hi))).setCell ⟨w.heap.size, 1, none⟩ (.float .f64 (btHi lo hi))) w.heap.size (btLo lo hi) (btHi lo hi) ∧ Below w.heap.size w ((W.setCell ⟨w.heap.size, 0, none⟩ (.float .f64 (btLo lo hi))).setCell ⟨w.heap.size, 1, none⟩ (.float .f64 (btHi lo hi))) ∧ (∀ o, W.frozen? ⟨w.heap.size, o, none⟩ = false) ∧ W.cell? ⟨w.heap.size, 0, none⟩ = some (.float .f64 lo) ∧ W.cell? ⟨w.heap.size, 1, none⟩ = some (.float .f64 hi)) := fun W hW => by
    have k : BY W w.heap.size lo hi := BY.keep (W := W0) g1 hW
    exact ⟨k.put _ _, Below.setCell (Below.setCell (HB0.out.trans (hW.mono HB0.out.size)) (Nat.le_refl _) _) (Nat.le_refl _) _, k.cells.2.2, k.cells.1, k.cells.2.1⟩
  obtain ⟨y0, y1, y2⟩ := icells_of (show W0.heap[w.heap.size]? = some (.cells #[.float .f64 lo, .float .f64 hi] 28) from g1)
  obtain ⟨A, hA⟩ : ∃ z, Hid (btLo lo hi = z) := ⟨_, rfl⟩
  obtain ⟨B, hB⟩ : ∃ z, Hid (btHi lo hi = z) := ⟨_, rfl⟩
  rw [hA.out, hB.out] at HT HP hN
  unfold IBox at hW0
  have hW0' := hW0.out
  have hst := fstore
  unfold IV at HT ⊢
  clear g1
  go_enter Tryd.func6, Tryd.ntmps6
  go_wp2_with fail
  refine HT.out.mono ?_
  rintro r w1 ⟨rfl, hb1⟩
  obtain ⟨k0, k1, k2, k3, k4⟩ := HP.out w1 hb1
  obtain ⟨X, hX⟩ : ∃ X, Hid ((w1.setCell ⟨w.heap.size, 0, none⟩ (.float .f64 A)).setCell ⟨w.heap.size, 1, none⟩ (.float .f64 B) = X) := ⟨_, rfl⟩
  have hX' := hX.out
  rw [hX'] at k0 k1
  have HK0 := hid k0
  have HBX := hid k1
  obtain ⟨c0, c1, _⟩ := k0.cells
  have HXX : Hid (Below X.heap.size X X) := Below.refl _ _
  clear hb1 k0 k1
  have HN := hid (fr6 X _ _ _ HK0.out (fun W => none_any A B W))
  rw [hN] at HN
  unfold IV at HN
  have HNN := hid theNaN6_any
  go_wp2_with fail
  refine (HN.out _ HXX).mono ?_
  rintro r w2 ⟨rfl, ⟨c2, c3⟩, HF2⟩
  go_wp2_with fail
  refine (HNN.out _).mono ?_
  rintro r w3 ⟨rfl, hb3⟩
  have HB3 := hid ((HBX.out.trans (HF2.out.mono HBX.out.size)).trans (hb3.mono (Nat.le_trans HBX.out.size HF2.out.size)))
  clear hb3
  go_wp2
  go_ret
  exact ⟨rfl, HB3.out⟩
set_option maxHeartbeats 4000000 in
theorem Mid_core (lo hi q m : Nat) (T2 T3 T4 : Bool) (w : World) (hlt : btLo lo hi < 18446744073709551616) (hN : noneB (btLo lo hi) (btHi lo hi) = false) (h2 : (FloatKind.f64.format.order (btLo lo hi) 18442240474082181120 == some .eq && FloatKind.f64.format.order (btHi lo hi) 9218868437227405312 == some .eq) = T2) (h3 : (FloatKind.f64.format.order (btHi lo hi) 9218868437227405311 == some .gt) = T3) (h4 : (FloatKind.f64.format.order (flipOf (btLo lo hi)) 9218868437227405311 == some .gt) = T4) (hm : (if T2 then 0 else if T3 then 9218868437227405311 else if T4 then 18442240474082181119 else plusOf q) = m) (hq : T2 = false → T3 = false → T4 = false → ∀ W, Calls Tryd.prog 27 #[.float .f64 (btLo lo hi), .float .f64 (btHi lo hi)] W fun r w' => r = .returned (.float .f64 q) ∧ w' = W) : Calls Tryd.prog 6 #[IV lo hi] w fun r w' => r = .returned (.float .f64 m) ∧ Below w.heap.size w w' := by
  have H3 := hid (isinf1_any (btHi lo hi))
  have H4 := hid (fun (W : World) => isinf2_any (btLo lo hi) W hlt)
  rw [h3] at H3
  rw [h4] at H4
  have HH0 := hid hq
  clear hlt h3 h4 hq
  have g1 := inew w (IBox lo hi)
  have HB0 : Hid (Below w.heap.size w (w.alloc (IBox lo hi))) := (Below.refl _ _).alloc (Nat.le_refl _) _
  obtain ⟨W0, hW0⟩ : ∃ V, Hid (w.alloc (IBox lo hi) = V) := ⟨_, rfl⟩
  rw [hW0.out] at g1 HB0
  have HT := hid (taken_any lo hi W0)
  have HP : Hid (∀ W, Below W0.heap.size W0 W → BY ((W.setCell ⟨w.heap.size, 0, none⟩ (.float .f64 (btLo lo hi))).setCell ⟨w.heap.size, 1, none⟩ (.float .f64 (btHi lo hi))) w.heap.size (btLo lo hi) (btHi lo hi) ∧ Below w.heap.size w ((W.setCell ⟨w.heap.size, 0, none⟩ (.float .f64 (btLo lo hi))).setCell ⟨w.heap.size, 1, none⟩ (.float .f64 (btHi lo hi))) ∧ (∀ o, W.frozen? ⟨w.heap.size, o, none⟩ = false) ∧ W.cell? ⟨w.heap.size, 0, none⟩ = some (.float .f64 lo) ∧ W.cell? ⟨w.heap.size, 1, none⟩ = some (.float .f64 hi)) := fun W hW => by
    have k : BY W w.heap.size lo hi := BY.keep (W := W0) g1 hW
    exact ⟨k.put _ _, Below.setCell (Below.setCell (HB0.out.trans (hW.mono HB0.out.size)) (Nat.le_refl _) _) (Nat.le_refl _) _, k.cells.2.2, k.cells.1, k.cells.2.1⟩
  obtain ⟨y0, y1, y2⟩ := icells_of (show W0.heap[w.heap.size]? = some (.cells #[.float .f64 lo, .float .f64 hi] 28) from g1)
  obtain ⟨A, hA⟩ : ∃ z, Hid (btLo lo hi = z) := ⟨_, rfl⟩
  obtain ⟨B, hB⟩ : ∃ z, Hid (btHi lo hi = z) := ⟨_, rfl⟩
  rw [hA.out, hB.out] at HT HP
  rw [hA.out] at hN h2 H4 HH0
  rw [hB.out] at hN h2 H3 HH0
  unfold IBox at hW0
  have hW0' := hW0.out
  have hst := fstore
  unfold IV at HT ⊢
  clear g1
  cases T2
  · cases T3
    · cases T4
      · have HH := hid (HH0.out rfl rfl rfl)
        have HPL := hid (iplus_any q)
        have e : plusOf q = m := hm
        rw [e] at HPL
        clear hm HH0 e
        go_enter Tryd.func6, Tryd.ntmps6
        go_wp2_with fail
        refine HT.out.mono ?_
        rintro r w1 ⟨rfl, hb1⟩
        obtain ⟨k0, k1, k2, k3, k4⟩ := HP.out w1 hb1
        obtain ⟨X, hX⟩ : ∃ X, Hid ((w1.setCell ⟨w.heap.size, 0, none⟩ (.float .f64 A)).setCell ⟨w.heap.size, 1, none⟩ (.float .f64 B) = X) := ⟨_, rfl⟩
        have hX' := hX.out
        rw [hX'] at k0 k1
        have HK0 := hid k0
        have HBX := hid k1
        obtain ⟨c0, c1, _⟩ := k0.cells
        have HXX : Hid (Below X.heap.size X X) := Below.refl _ _
        clear hb1 k0 k1
        have HN := hid (fr6 X _ _ _ HK0.out (fun W => none_any A B W))
        rw [hN] at HN
        have HAL := hid (fr6 X _ _ _ HK0.out (fun W => All_any W))
        unfold IV at HN HAL
        have hfe := ieql
        go_wp2_with fail
        refine (HN.out _ HXX).mono ?_
        rintro r w2 ⟨rfl, ⟨c2, c3⟩, HF2⟩
        have HKX : Hid (∀ W, Hid (Below X.heap.size X W) → (W.cell? ⟨w.heap.size, 0, none⟩ = some (.float .f64 A) ∧ W.cell? ⟨w.heap.size, 1, none⟩ = some (.float .f64 B)) ∧ Hid (Below X.heap.size X W)) := fun W hW => ⟨⟨(HK0.out.keep hW.out).cells.1, (HK0.out.keep hW.out).cells.2.1⟩, hW⟩
        have HQ2 : Hid (Below X.heap.size X w2.drew) := HF2.out.drew
        go_wp2_with fail
        go_region_held3 (fun W => (W.cell? ⟨w.heap.size, 0, none⟩ = some (.float .f64 A) ∧ W.cell? ⟨w.heap.size, 1, none⟩ = some (.float .f64 B)) ∧ Hid (Below X.heap.size X W))
          ((refine HKX.out _ ?_; first | with_reducible assumption | with_reducible exact HQ2 | with_reducible exact And.right (by assumption)))
          (first
            | (go_at_call 25; refine (HAL.out _ (And.right (by assumption))).mono ?_; rintro r w3 ⟨rfl, ⟨c4, c5⟩, HF3⟩)
            | fail)
        go_wp2_with fail
        refine (H3.out _).mono ?_
        rintro r w4 ⟨rfl, rfl⟩
        go_wp2_with fail
        refine (H4.out _).mono ?_
        rintro r w5 ⟨rfl, rfl⟩
        go_wp2_with fail
        refine (HH.out _).mono ?_
        rintro r w6 ⟨rfl, rfl⟩
        go_wp2_with fail
        refine (HPL.out _).mono ?_
        rintro r w7 ⟨rfl, rfl⟩
        go_wp2
        go_ret
        exact ⟨rfl, HBX.out.trans (HF3.out.mono HBX.out.size)⟩
      · have e : 18442240474082181119 = m := hm
        subst e
        clear HH0
        go_enter Tryd.func6, Tryd.ntmps6
        go_wp2_with fail
        refine HT.out.mono ?_
        rintro r w1 ⟨rfl, hb1⟩
        obtain ⟨k0, k1, k2, k3, k4⟩ := HP.out w1 hb1
        obtain ⟨X, hX⟩ : ∃ X, Hid ((w1.setCell ⟨w.heap.size, 0, none⟩ (.float .f64 A)).setCell ⟨w.heap.size, 1, none⟩ (.float .f64 B) = X) := ⟨_, rfl⟩
        have hX' := hX.out
        rw [hX'] at k0 k1
        have HK0 := hid k0
        have HBX := hid k1
        obtain ⟨c0, c1, _⟩ := k0.cells
        have HXX : Hid (Below X.heap.size X X) := Below.refl _ _
        clear hb1 k0 k1
        have HN := hid (fr6 X _ _ _ HK0.out (fun W => none_any A B W))
        rw [hN] at HN
        have HAL := hid (fr6 X _ _ _ HK0.out (fun W => All_any W))
        unfold IV at HN HAL
        have hfe := ieql
        go_wp2_with fail
        refine (HN.out _ HXX).mono ?_
        rintro r w2 ⟨rfl, ⟨c2, c3⟩, HF2⟩
        have HKX : Hid (∀ W, Hid (Below X.heap.size X W) → (W.cell? ⟨w.heap.size, 0, none⟩ = some (.float .f64 A) ∧ W.cell? ⟨w.heap.size, 1, none⟩ = some (.float .f64 B)) ∧ Hid (Below X.heap.size X W)) := fun W hW => ⟨⟨(HK0.out.keep hW.out).cells.1, (HK0.out.keep hW.out).cells.2.1⟩, hW⟩
        have HQ2 : Hid (Below X.heap.size X w2.drew) := HF2.out.drew
        go_wp2_with fail
        go_region_held3 (fun W => (W.cell? ⟨w.heap.size, 0, none⟩ = some (.float .f64 A) ∧ W.cell? ⟨w.heap.size, 1, none⟩ = some (.float .f64 B)) ∧ Hid (Below X.heap.size X W))
          ((refine HKX.out _ ?_; first | with_reducible assumption | with_reducible exact HQ2 | with_reducible exact And.right (by assumption)))
          (first
            | (go_at_call 25; refine (HAL.out _ (And.right (by assumption))).mono ?_; rintro r w3 ⟨rfl, ⟨c4, c5⟩, HF3⟩)
            | fail)
        go_wp2_with fail
        refine (H3.out _).mono ?_
        rintro r w4 ⟨rfl, rfl⟩
        go_wp2_with fail
        refine (H4.out _).mono ?_
        rintro r w5 ⟨rfl, rfl⟩
        go_wp2
        go_ret
        exact ⟨rfl, HBX.out.trans (HF3.out.mono HBX.out.size)⟩
    · have e : 9218868437227405311 = m := hm
      subst e
      clear HH0
      go_enter Tryd.func6, Tryd.ntmps6
      go_wp2_with fail
      refine HT.out.mono ?_
      rintro r w1 ⟨rfl, hb1⟩
      obtain ⟨k0, k1, k2, k3, k4⟩ := HP.out w1 hb1
      obtain ⟨X, hX⟩ : ∃ X, Hid ((w1.setCell ⟨w.heap.size, 0, none⟩ (.float .f64 A)).setCell ⟨w.heap.size, 1, none⟩ (.float .f64 B) = X) := ⟨_, rfl⟩
      have hX' := hX.out
      rw [hX'] at k0 k1
      have HK0 := hid k0
      have HBX := hid k1
      obtain ⟨c0, c1, _⟩ := k0.cells
      have HXX : Hid (Below X.heap.size X X) := Below.refl _ _
      clear hb1 k0 k1
      have HN := hid (fr6 X _ _ _ HK0.out (fun W => none_any A B W))
      rw [hN] at HN
      have HAL := hid (fr6 X _ _ _ HK0.out (fun W => All_any W))
      unfold IV at HN HAL
      have hfe := ieql
      go_wp2_with fail
      refine (HN.out _ HXX).mono ?_
      rintro r w2 ⟨rfl, ⟨c2, c3⟩, HF2⟩
      have HKX : Hid (∀ W, Hid (Below X.heap.size X W) → (W.cell? ⟨w.heap.size, 0, none⟩ = some (.float .f64 A) ∧ W.cell? ⟨w.heap.size, 1, none⟩ = some (.float .f64 B)) ∧ Hid (Below X.heap.size X W)) := fun W hW => ⟨⟨(HK0.out.keep hW.out).cells.1, (HK0.out.keep hW.out).cells.2.1⟩, hW⟩
      have HQ2 : Hid (Below X.heap.size X w2.drew) := HF2.out.drew
      go_wp2_with fail
      go_region_held3 (fun W => (W.cell? ⟨w.heap.size, 0, none⟩ = some (.float .f64 A) ∧ W.cell? ⟨w.heap.size, 1, none⟩ = some (.float .f64 B)) ∧ Hid (Below X.heap.size X W))
        ((refine HKX.out _ ?_; first | with_reducible assumption | with_reducible exact HQ2 | with_reducible exact And.right (by assumption)))
        (first
          | (go_at_call 25; refine (HAL.out _ (And.right (by assumption))).mono ?_; rintro r w3 ⟨rfl, ⟨c4, c5⟩, HF3⟩)
          | fail)
      go_wp2_with fail
      refine (H3.out _).mono ?_
      rintro r w4 ⟨rfl, rfl⟩
      go_wp2
      go_ret
      exact ⟨rfl, HBX.out.trans (HF3.out.mono HBX.out.size)⟩
  · have e : 0 = m := hm
    subst e
    clear HH0
    go_enter Tryd.func6, Tryd.ntmps6
    go_wp2_with fail
    refine HT.out.mono ?_
    rintro r w1 ⟨rfl, hb1⟩
    obtain ⟨k0, k1, k2, k3, k4⟩ := HP.out w1 hb1
    obtain ⟨X, hX⟩ : ∃ X, Hid ((w1.setCell ⟨w.heap.size, 0, none⟩ (.float .f64 A)).setCell ⟨w.heap.size, 1, none⟩ (.float .f64 B) = X) := ⟨_, rfl⟩
    have hX' := hX.out
    rw [hX'] at k0 k1
    have HK0 := hid k0
    have HBX := hid k1
    obtain ⟨c0, c1, _⟩ := k0.cells
    have HXX : Hid (Below X.heap.size X X) := Below.refl _ _
    clear hb1 k0 k1
    have HN := hid (fr6 X _ _ _ HK0.out (fun W => none_any A B W))
    rw [hN] at HN
    have HAL := hid (fr6 X _ _ _ HK0.out (fun W => All_any W))
    unfold IV at HN HAL
    have hfe := ieql
    go_wp2_with fail
    refine (HN.out _ HXX).mono ?_
    rintro r w2 ⟨rfl, ⟨c2, c3⟩, HF2⟩
    have HKX : Hid (∀ W, Hid (Below X.heap.size X W) → (W.cell? ⟨w.heap.size, 0, none⟩ = some (.float .f64 A) ∧ W.cell? ⟨w.heap.size, 1, none⟩ = some (.float .f64 B)) ∧ Hid (Below X.heap.size X W)) := fun W hW => ⟨⟨(HK0.out.keep hW.out).cells.1, (HK0.out.keep hW.out).cells.2.1⟩, hW⟩
    have HQ2 : Hid (Below X.heap.size X w2.drew) := HF2.out.drew
    go_wp2_with fail
    go_region_held3 (fun W => (W.cell? ⟨w.heap.size, 0, none⟩ = some (.float .f64 A) ∧ W.cell? ⟨w.heap.size, 1, none⟩ = some (.float .f64 B)) ∧ Hid (Below X.heap.size X W))
      ((refine HKX.out _ ?_; first | with_reducible assumption | with_reducible exact HQ2 | with_reducible exact And.right (by assumption)))
      (first
        | (go_at_call 25; refine (HAL.out _ (And.right (by assumption))).mono ?_; rintro r w3 ⟨rfl, ⟨c4, c5⟩, HF3⟩)
        | fail)
    go_wp2
    go_ret
    exact ⟨rfl, HBX.out.trans (HF3.out.mono HBX.out.size)⟩
end Go.Proofs.YtilffgmekeeohaaDoor
