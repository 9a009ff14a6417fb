
/- What clock's Fit does. -/
import Derived.Test.YtfdphegiafccpabP20
import Derived.Test.YtfdphegiafccpabP23
namespace Go.Proofs.Ytfdphegiafccpab
open Go.RowKit Go.IntWalk

/-- The clock that Fit lays through the first and the last pair. -/
def ftN (C T : Nat → Int) (l : Nat) : Nat := lowN (T (l - 1) - T 0).toNat (C (l - 1) - C 0).toNat
def ftD (C T : Nat → Int) (l : Nat) : Nat := lowD (T (l - 1) - T 0).toNat (C (l - 1) - C 0).toNat
def ftO (C T : Nat → Int) (l : Nat) : Int := T 0 - floV (C 0) (ftN C T l) (ftD C T l)
def FtGood (C T : Nat → Int) (l : Nat) : Prop := PGood C T l ∧ ckB 0 (ftN C T l) (ftD C T l) = true ∧ ckB (ftO C T l) (ftN C T l) (ftD C T l) = true
def FtOk (C T : Nat → Int) (l : Nat) (r : Ending) : Prop := ∃ O P Q v E : Int, r = .returned (.tuple #[.agg #[.int .i64 O, .int .i64 P, .int .i64 Q], .int .i64 v, .int .i64 E]) ∧ (E = 0 ↔ FtGood C T l) ∧ (E = 0 → O = ftO C T l ∧ P = (ftN C T l : Int) ∧ Q = (ftD C T l : Int) ∧ 0 ≤ v ∧ ((∀ i, i < l → ftO C T l + floV (C i) (ftN C T l) (ftD C T l) = T i) → v = 0))
theorem ft_bad {C T : Nat → Int} {l : Nat} (E : Int) (hE : E ≠ 0) (h : ¬ FtGood C T l) : FtOk C T l (.returned (.tuple #[.agg #[.int .i64 0, .int .i64 0, .int .i64 0], .int .i64 0, .int .i64 E])) := ⟨0, 0, 0, 0, E, rfl, ⟨fun c => absurd c hE, fun c => absurd c h⟩, fun c => absurd c hE⟩
theorem al_two1 (V : World) : Below V.heap.size V (V.alloc (.cells #[.int .i64 0, .int .i64 0] 36)).drew := ((Below.refl _ _).alloc (Nat.le_refl _) _).drew
theorem al_two2 (V : World) : Below V.heap.size V ((V.alloc (.cells #[.int .i64 0, .int .i64 0] 36)).drew.alloc (.cells #[.int .i64 0, .int .i64 0] 36)) := (((Below.refl _ _).alloc (Nat.le_refl _) _).drew).alloc (by simp) _
theorem al2d (V : World) : ((V.alloc (.cells #[.int .i64 0, .int .i64 0] 36)).alloc (.cells #[.int .i64 0, .int .i64 0] 36)).drew.heap[V.heap.size]? = some (PBox 0 0) ∧ ((V.alloc (.cells #[.int .i64 0, .int .i64 0] 36)).alloc (.cells #[.int .i64 0, .int .i64 0] 36)).drew.heap[V.heap.size + 1]? = some (PBox 0 0) := al2 V (PBox 0 0) (PBox 0 0)
theorem al_two2d (V : World) : Below V.heap.size V ((V.alloc (.cells #[.int .i64 0, .int .i64 0] 36)).alloc (.cells #[.int .i64 0, .int .i64 0] 36)).drew := (((Below.refl _ _).alloc (Nat.le_refl _) _).alloc (by simp) _).drew
/-- A pair stored into its box. -/
def StoP (W : World) (p : Nat) (x y : Int) : World := (W.setCell ⟨p, 0, none⟩ (.int .i64 x)).setCell ⟨p, 1, none⟩ (.int .i64 y)
theorem StoP.below {V W : World} {p : Nat} {x y : Int} (h : Below V.heap.size V W) (hp : V.heap.size ≤ p) : Below V.heap.size V (StoP W p x y) := Below.setCell (Below.setCell h hp _) hp _
theorem StoP.same {W : World} {p : Nat} {a b x y : Int} (h : W.heap[p]? = some (PBox a b)) : (StoP W p x y).heap[p]? = some (PBox x y) := by
  unfold StoP PBox
  unfold PBox at h
  simp [World.setCell, Array.getElem?_modify, h]
theorem StoP.other {W : World} {p q : Nat} {x y : Int} {o : Obj} (hn : p ≠ q) (h : W.heap[q]? = some o) : (StoP W p x y).heap[q]? = some o := by
  unfold StoP
  simp [World.setCell, Array.getElem?_modify, hn, h]
/-- Two pairs, each in a box of its own. -/
def TwoP (W : World) (p q : Nat) (x y x' y' : Int) : Prop := W.heap[p]? = some (PBox x y) ∧ W.heap[q]? = some (PBox x' y')
theorem ris_lt {C T : Nat → Int} {n : Nat} (h : Ris C T n) (i : Nat) : ∀ j, i < j → j < n → C i < C j ∧ T i < T j := by
  intro j
  induction j with
  | zero => intro h1; exact absurd h1 (Nat.not_lt_zero _)
  | succ j ih =>
    intro h1 h2
    have hs := h j h2
    by_cases hij : i = j
    · rw [hij]
      exact hs
    · have := ih (by omega) (by omega)
      omega
theorem ft_facts {C T : Nat → Int} {l L : Nat} (h : PGood C T l) (hL : l - 1 = L) : ((-1125899906842624 ≤ C 0 ∧ C 0 ≤ 1125899906842624) ∧ (-1125899906842624 ≤ T 0 ∧ T 0 ≤ 1125899906842624)) ∧ (-1125899906842624 ≤ C L ∧ C L ≤ 1125899906842624) ∧ (-1125899906842624 ≤ T L ∧ T L ≤ 1125899906842624) ∧ T 0 < T L ∧ C 0 < C L := by
  obtain ⟨⟨h1, h2⟩, h3, h4⟩ := h
  have a := h3 0 (by omega)
  have b := h3 L (by omega)
  have c := ris_lt h4 0 L (by omega) (by omega)
  exact ⟨⟨(inB_iff _).1 a.1, (inB_iff _).1 a.2⟩, (inB_iff _).1 b.1, (inB_iff _).1 b.2, c.2, c.1⟩
theorem ft_pre {C T : Nat → Int} {l L : Nat} (h : PGood C T l) (hL : l - 1 = L) : ∃ X Y : Nat, T L - T 0 = (X : Int) ∧ C L - C 0 = (Y : Int) ∧ (0 < X ∧ X ≤ 2251799813685248) ∧ (0 < Y ∧ Y ≤ 2251799813685248) ∧ ftN C T l = X / Nat.gcd X Y ∧ ftD C T l = Y / Nat.gcd X Y := by
  obtain ⟨_, b1, b2, b3, b4⟩ := ft_facts h hL
  obtain ⟨⟨_, _⟩, _, _⟩ := ft_facts h hL
  obtain ⟨X, hX⟩ := Int.eq_ofNat_of_zero_le (show 0 ≤ T L - T 0 by omega)
  obtain ⟨Y, hY⟩ := Int.eq_ofNat_of_zero_le (show 0 ≤ C L - C 0 by omega)
  refine ⟨X, Y, hX, hY, by omega, by omega, ?_, ?_⟩
  · unfold ftN lowN
    rw [hL, hX, hY, Int.toNat_natCast, Int.toNat_natCast]
  · unfold ftD lowD
    rw [hL, hX, hY, Int.toNat_natCast, Int.toNat_natCast]
theorem ft_small {C T : Nat → Int} {l : Nat} (h : PGood C T l) : ftN C T l ≤ 2251799813685248 ∧ 0 < ftD C T l ∧ ftD C T l ≤ 2251799813685248 := by
  obtain ⟨X, Y, _, _, ⟨a1, a2⟩, ⟨b1, b2⟩, e1, e2⟩ := ft_pre h rfl
  rw [e1, e2]
  have h1 := Nat.div_le_self X (Nat.gcd X Y)
  have h2 := Nat.div_le_self Y (Nat.gcd X Y)
  exact ⟨by omega, Nat.div_pos (Nat.gcd_le_right _ b1) (Nat.gcd_pos_of_pos_right _ b1), by omega⟩
theorem ft_low {C T : Nat → Int} {l L : Nat} (h : PGood C T l) (hL : l - 1 = L) (W : World) : Calls Try.prog 16 #[.int .i64 (T L - T 0), .int .i64 (C L - C 0)] W fun r w' => r = .returned (.agg #[.int .i64 0, .int .i64 (ftN C T l : Int), .int .i64 (ftD C T l : Int)]) ∧ Below W.heap.size W w' := by
  obtain ⟨X, Y, hX, hY, ⟨a1, a2⟩, ⟨b1, b2⟩, e1, e2⟩ := ft_pre h hL
  rw [hX, hY, e1, e2]
  exact low_any X Y W a1 (by omega) (by omega)
theorem ft_wrap {C T : Nat → Int} {l L : Nat} (h : PGood C T l) (hL : l - 1 = L) : wrap64 (T L - T 0) = T L - T 0 ∧ wrap64 (C L - C 0) = C L - C 0 := by
  obtain ⟨X, Y, hX, hY, ⟨a1, a2⟩, ⟨b1, b2⟩, _⟩ := ft_pre h hL
  rw [hX, hY]
  exact ⟨wrap64_in _ (by omega), wrap64_in _ (by omega)⟩
theorem ft_off {C T : Nat → Int} {l : Nat} (h : PGood C T l) : IntKind.i64.wrap (T 0 - floV (C 0) (ftN C T l) (ftD C T l)) = ftO C T l ∧ T 0 - floV (C 0) (ftN C T l) (ftD C T l) = ftO C T l ∧ IntKind.i64.wrap (ftO C T l) = ftO C T l := by
  obtain ⟨⟨_, c1, c2⟩, _⟩ := ft_facts h rfl
  have hb := floV_bounds (C 0) (ftN C T l) (ftD C T l)
  have e : T 0 - floV (C 0) (ftN C T l) (ftD C T l) = ftO C T l := by rw [ftO]
  have hw : IntKind.i64.wrap (T 0 - floV (C 0) (ftN C T l) (ftD C T l)) = T 0 - floV (C 0) (ftN C T l) (ftD C T l) := IntWalk.i64_in _ (by omega)
  exact ⟨hw.trans e, e, by rw [← e]; exact hw⟩
theorem ft_iff {C T : Nat → Int} {l : Nat} (h : PGood C T l) : FtGood C T l ↔ (ckB 0 (ftN C T l) (ftD C T l) = true ∧ ckB (ftO C T l) (ftN C T l) (ftD C T l) = true) := ⟨fun g => g.2, fun g => ⟨h, g⟩⟩
theorem ft_flo {C T : Nat → Int} {l : Nat} (h : PGood C T l) (W : World) : Calls Try.prog 17 #[.int .i64 (C 0), .int .i64 (ftN C T l : Int), .int .i64 (ftD C T l : Int)] W fun r w' => r = .returned (.int .i64 (floV (C 0) (ftN C T l) (ftD C T l))) ∧ ∃ m, w' = W.drewN m := by
  obtain ⟨⟨⟨c1, c2⟩, _⟩, _⟩ := ft_facts h rfl
  obtain ⟨n1, _, n2⟩ := ft_small h
  exact floor_any (C 0) _ _ (ftN C T l) (ftD C T l) W (by omega) (by omega) rfl rfl (by omega) (by omega)
theorem ft_wor {C T : Nat → Int} {l cap : Nat} {sa : Option Addr} {w : World} (h : PGood C T l) (hp : PrAt w sa l C T) (W : World) (hb : Below w.heap.size w W) (hc : ckB (ftO C T l) (ftN C T l) (ftD C T l) = true) : Calls Try.prog 18 #[.agg #[.int .i64 (ftO C T l), .int .i64 (ftN C T l : Int), .int .i64 (ftD C T l : Int)], .slice sa l cap] W fun r w' => WmOk (ftO C T l) (ftN C T l) (ftD C T l) C T l r ∧ Below W.heap.size W w' := by
  obtain ⟨⟨o1, o2⟩, ⟨n1, n2⟩, d1, d2⟩ := ckB_yes hc
  exact worst_any (ftO C T l) _ _ (ftN C T l) (ftD C T l) sa l cap C T W (hp.below hb) h.1.2 (fun i hi => (h.2.1 i hi).2) rfl rfl (by omega) (by omega) o1 o2
theorem ft_ok {C T : Nat → Int} {l : Nat} (v : Int) (hg : FtGood C T l) (h1 : 0 ≤ v) (h2 : (∀ i, i < l → ftO C T l + floV (C i) (ftN C T l) (ftD C T l) = T i) → v = 0) : FtOk C T l (.returned (.tuple #[.agg #[.int .i64 (ftO C T l), .int .i64 (ftN C T l : Int), .int .i64 (ftD C T l : Int)], .int .i64 v, .int .i64 0])) := ⟨_, _, _, v, 0, rfl, ⟨fun _ => hg, fun _ => rfl⟩, fun _ => ⟨rfl, rfl, rfl, h1, h2⟩⟩
theorem ck_e (x : Int) (N D : Nat) : ckE x N D = if ckB x N D = true then 0 else 130 := by rw [ckE]
theorem sto_off {W : World} {z : Nat} {O n d : Int} (h : W.heap[z]? = some (CBox 0 n d)) : (W.setCell ⟨z, 0, none⟩ (.int .i64 O)).heap[z]? = some (CBox O n d) := by
  unfold CBox at h ⊢
  simp [World.setCell, Array.getElem?_modify, h]
theorem sto_keep {W : World} {p z : Nat} {x y n d : Int} {v : Value} (h : (W.cell? ⟨p, 0, none⟩ = some (.int .i64 x) ∧ W.cell? ⟨p, 1, none⟩ = some (.int .i64 y)) ∧ W.cell? ⟨z, 1, none⟩ = some (.int .i64 n) ∧ W.cell? ⟨z, 2, none⟩ = some (.int .i64 d)) (hp : p ≠ z) : ((W.setCell ⟨z, 0, none⟩ v).cell? ⟨p, 0, none⟩ = some (.int .i64 x) ∧ (W.setCell ⟨z, 0, none⟩ v).cell? ⟨p, 1, none⟩ = some (.int .i64 y)) ∧ (W.setCell ⟨z, 0, none⟩ v).cell? ⟨z, 1, none⟩ = some (.int .i64 n) ∧ (W.setCell ⟨z, 0, none⟩ v).cell? ⟨z, 2, none⟩ = some (.int .i64 d) := by
  obtain ⟨⟨h1, h2⟩, h3, h4⟩ := h
  refine ⟨⟨?_, ?_⟩, ?_, ?_⟩
  · rw [World.cell?_setCell_far _ _ _ _ (fun e => hp e.symm)]; exact h1
  · rw [World.cell?_setCell_far _ _ _ _ (fun e => hp e.symm)]; exact h2
  · exact (World.cell?_setCell_other (a := ⟨z, 0, none⟩) (b := ⟨z, 1, none⟩) W v (by simp)).trans h3
  · exact (World.cell?_setCell_other (a := ⟨z, 0, none⟩) (b := ⟨z, 2, none⟩) W v (by simp)).trans h4
theorem sto3_keep {W : World} {z r : Nat} {O n d : Int} {a b c : Value} (h : W.cell? ⟨z, 0, none⟩ = some (.int .i64 O) ∧ W.cell? ⟨z, 1, none⟩ = some (.int .i64 n) ∧ W.cell? ⟨z, 2, none⟩ = some (.int .i64 d)) (hp : z ≠ r) : (((W.setCell ⟨r, 0, none⟩ a).setCell ⟨r, 1, none⟩ b).setCell ⟨r, 2, none⟩ c).cell? ⟨z, 0, none⟩ = some (.int .i64 O) ∧ (((W.setCell ⟨r, 0, none⟩ a).setCell ⟨r, 1, none⟩ b).setCell ⟨r, 2, none⟩ c).cell? ⟨z, 1, none⟩ = some (.int .i64 n) ∧ (((W.setCell ⟨r, 0, none⟩ a).setCell ⟨r, 1, none⟩ b).setCell ⟨r, 2, none⟩ c).cell? ⟨z, 2, none⟩ = some (.int .i64 d) := by
  obtain ⟨h1, h2, h3⟩ := h
  have f : ∀ (V : World) (o k : Nat) (v : Value), (V.setCell ⟨r, o, none⟩ v).cell? ⟨z, k, none⟩ = V.cell? ⟨z, k, none⟩ := fun V o k v => World.cell?_setCell_far _ _ _ _ (fun e => hp e.symm)
  refine ⟨?_, ?_, ?_⟩ <;> rw [f, f, f] <;> assumption
set_option maxRecDepth 2000 in
set_option maxHeartbeats 8000000 in
theorem Fit_any (sa : Option Addr) (l cap : Nat) (C T : Nat → Int) (w : World) (hp : PrAt w sa l C T) (hl : l ≤ 17592186043904) :
    Calls Try.prog 8 #[.slice sa l cap] w fun r w' => FtOk C T l r ∧ Below w.heap.size w w' := by
  have HK := hid (fun W => @ckbox2 w W 0 0 0)
  have HP := hid hp
  have HB00 : Hid (Below w.heap.size w (w.alloc (CBox 0 0 0))) := (Below.refl _ _).alloc (Nat.le_refl _) _
  obtain ⟨W0, hW0⟩ : ∃ V, Hid (w.alloc (CBox 0 0 0) = V) := ⟨_, rfl⟩
  rw [hW0.out] at HK HB00
  have HCP := hid (checkPairs_any sa l cap C T W0 (hp.below HB00.out) hl)
  unfold CBox at hW0
  have hW0' := hW0.out
  clear hp
  go_enter Try.func8, Try.ntmps8
  go_wp2_with fail
  refine HCP.out.mono ?_
  rintro e v1 ⟨⟨E, rfl, hE⟩, hb⟩
  have HEE := hid hE
  have HB1 := hid hb
  clear hE hb
  obtain ⟨⟨r0, r1, r2, rf⟩, rs, _⟩ := HK.out v1 HB1.out
  by_cases h0 : E = 0
  · subst h0
    have HG := hid (HEE.out.1 rfl)
    have hl2 : 2 ≤ l := HG.out.1.1
    have hl3 : l ≤ 1024 := HG.out.1.2
    obtain ⟨b, off, rfl, hbl, hcl⟩ := HP.out.2 (by omega)
    obtain ⟨L, hL⟩ : ∃ t, l - 1 = t := ⟨_, rfl⟩
    have hbb := (HK.out v1 HB1.out).2.2
    have q1 : IntKind.i64.wrap ((l : Int) - 1) = (L : Int) := by rw [IntWalk.i64_in _ (by omega)]; omega
    have q2 : (l : Int) - 1 = (L : Int) := by omega
    have q3 : wrap64 (L : Int) = (L : Int) := wrap64_in _ (by omega)
    have q4 : IntKind.i64.wrap (L : Int) = (L : Int) := IntWalk.i64_in _ (by omega)
    have q5 : (L : Int) < (l : Int) := by omega
    have q6 : (0 : Int) < (l : Int) := by omega
    have q7 : ¬ l = 0 := by omega
    have HCC : Hid (∀ W, Hid (Below v1.heap.size v1 W) → ((W.cell? ⟨b, off, none⟩ = some (.int .i64 (C 0)) ∧ W.cell? ⟨b, off + 1, none⟩ = some (.int .i64 (T 0))) ∧ W.cell? ⟨b, off + L * 2, none⟩ = some (.int .i64 (C L)) ∧ W.cell? ⟨b, off + L * 2 + 1, none⟩ = some (.int .i64 (T L))) ∧ Hid (Below v1.heap.size v1 W)) := fun W h => by
      have hb2 := hbb.trans (h.out.mono hbb.size)
      have a := hcl 0 (by omega)
      have a' := hcl L (by omega)
      refine ⟨⟨⟨?_, ?_⟩, ?_, ?_⟩, h⟩
      · rw [hb2.cell (p := ⟨b, off, none⟩) hbl]; exact a.1
      · rw [hb2.cell (p := ⟨b, off + 1, none⟩) hbl]; exact a.2
      · rw [hb2.cell (p := ⟨b, off + L * 2, none⟩) hbl]; exact a'.1
      · rw [hb2.cell (p := ⟨b, off + L * 2 + 1, none⟩) hbl]; exact a'.2
    have HQ0 : Hid (Below v1.heap.size v1 v1.drew) := (Below.refl _ _).drew
    go_wp2_with fail
    refine region_merge2 (fun a0 a' w' => ∃ p q : Nat, a' = Act.put (Act.put (Act.put (Act.put (Act.put (Act.put (Act.put (Act.put (Act.put (Act.put (Act.put (a0) (some 15) (.slice (some ⟨b, off, none⟩) l cap)) (some 16) (.pointer (some ⟨b, off, none⟩))) (some 17) (.agg #[.int .i64 (C 0), .int .i64 (T 0)])) (some 18) (.slice (some ⟨b, off, none⟩) l cap)) (some 19) (.slice (some ⟨b, off, none⟩) l cap)) (some 20) (.int .i64 l)) (some 21) (.int .i64 L)) (some 22) (.pointer (some ⟨b, off + L * 2, none⟩))) (some 23) (.agg #[.int .i64 (C L), .int .i64 (T L)])) (some 6) (.pointer (some ⟨p, 0, none⟩))) (some 7) (.pointer (some ⟨q, 0, none⟩)) ∧ TwoP w' p q (C 0) (T 0) (C L) (T L) ∧ Hid (Below v1.heap.size v1 w')) (fun HR => ?_) ?_
    · simp only [Act.put, List.setIfInBounds_toArray, List.set_cons_zero, List.set_cons_succ] at HR
      refine wp_region_held_drew (S := fun W => ((W.cell? ⟨b, off, none⟩ = some (.int .i64 (C 0)) ∧ W.cell? ⟨b, off + 1, none⟩ = some (.int .i64 (T 0))) ∧ W.cell? ⟨b, off + L * 2, none⟩ = some (.int .i64 (C L)) ∧ W.cell? ⟨b, off + L * 2 + 1, none⟩ = some (.int .i64 (T L))) ∧ Hid (Below v1.heap.size v1 W)) (by kernel_rfl) (HCC.out _ HQ0) (fun hHeld => ?_)
      refine take_at 0 15 (.slice (some ⟨b, off, none⟩) l cap) rfl rfl (by kernel_rfl) (by kernel_rfl) (by kernel_rfl) (fun _ _ _ h => h) (Or.inl ⟨by rfl, fun w hSw => by (try dsimp only at hSw); go_simp⟩) (by assumption) ?_
      simp only [Act.put, List.setIfInBounds_toArray, List.set_cons_zero, List.set_cons_succ]
      refine take_at 1 16 (.pointer (some ⟨b, off, none⟩)) rfl rfl (by kernel_rfl) (by kernel_rfl) (by kernel_rfl) (fun _ _ _ h => h) (Or.inl ⟨by rfl, fun w hSw => by (try dsimp only at hSw); go_simp⟩) (by assumption) ?_
      simp only [Act.put, List.setIfInBounds_toArray, List.set_cons_zero, List.set_cons_succ]
      refine take_at 2 17 (.agg #[.int .i64 (C 0), .int .i64 (T 0)]) rfl rfl (by kernel_rfl) (by kernel_rfl) (by kernel_rfl) (fun _ _ _ h => h) (Or.inl ⟨by rfl, fun w hSw => by (try dsimp only at hSw); go_simp⟩) (by assumption) ?_
      simp only [Act.put, List.setIfInBounds_toArray, List.set_cons_zero, List.set_cons_succ]
      refine take_at 3 18 (.slice (some ⟨b, off, none⟩) l cap) rfl rfl (by kernel_rfl) (by kernel_rfl) (by kernel_rfl) (fun _ _ _ h => h) (Or.inl ⟨by rfl, fun w hSw => by (try dsimp only at hSw); go_simp⟩) (by assumption) ?_
      simp only [Act.put, List.setIfInBounds_toArray, List.set_cons_zero, List.set_cons_succ]
      refine take_at 4 19 (.slice (some ⟨b, off, none⟩) l cap) rfl rfl (by kernel_rfl) (by kernel_rfl) (by kernel_rfl) (fun _ _ _ h => h) (Or.inl ⟨by rfl, fun w hSw => by (try dsimp only at hSw); go_simp⟩) (by assumption) ?_
      simp only [Act.put, List.setIfInBounds_toArray, List.set_cons_zero, List.set_cons_succ]
      refine take_at 5 20 (.int .i64 l) rfl rfl (by kernel_rfl) (by kernel_rfl) (by kernel_rfl) (fun _ _ _ h => h) (Or.inl ⟨by rfl, fun w hSw => by (try dsimp only at hSw); go_simp⟩) (by assumption) ?_
      simp only [Act.put, List.setIfInBounds_toArray, List.set_cons_zero, List.set_cons_succ]
      refine take_at 6 21 (.int .i64 L) rfl rfl (by kernel_rfl) (by kernel_rfl) (by kernel_rfl) (fun _ _ _ h => h) (Or.inl ⟨by rfl, fun w hSw => by (try dsimp only at hSw); go_simp⟩) (by assumption) ?_
      simp only [Act.put, List.setIfInBounds_toArray, List.set_cons_zero, List.set_cons_succ]
      refine take_at 7 22 (.pointer (some ⟨b, off + L * 2, none⟩)) rfl rfl (by kernel_rfl) (by kernel_rfl) (by kernel_rfl) (fun _ _ _ h => h) (Or.inl ⟨by rfl, fun w hSw => by (try dsimp only at hSw); go_simp⟩) (by assumption) ?_
      simp only [Act.put, List.setIfInBounds_toArray, List.set_cons_zero, List.set_cons_succ]
      refine take_at 8 23 (.agg #[.int .i64 (C L), .int .i64 (T L)]) rfl rfl (by kernel_rfl) (by kernel_rfl) (by kernel_rfl) (fun _ _ _ h => h) (Or.inl ⟨by rfl, fun w hSw => by (try dsimp only at hSw); go_simp⟩) (by assumption) ?_
      simp only [Act.put, List.setIfInBounds_toArray, List.set_cons_zero, List.set_cons_succ]
      refine wpAnyH_ready (rs := [9, 10]) (by kernel_rfl) (by simp) ?_
      refine AllReadyH.cons (o := _) rfl (fun K hK => ?_) (AllReadyH.cons (o := _) rfl (fun K hK => ?_) AllReadyH.nil)
      · have HA1 : Hid (Below v1.heap.size v1 (v1.alloc (.cells #[.int .i64 0, .int .i64 0] 36)).drew) := hid (al_two1 v1)
        go_simp
        go_wp2_with fail
        refine hK.out _ _ (HCC.out _ HA1) (fun hHeld1 => ?_)
        clear hK K
        try simp only [Act.put, List.setIfInBounds_toArray, List.set_cons_zero, List.set_cons_succ]
        refine wpAnyH_ready (rs := [10]) (by kernel_rfl) (by simp) ?_
        refine AllReadyH.cons (o := _) rfl (fun K hK => ?_) AllReadyH.nil
        have HA2 : Hid (Below v1.heap.size v1 ((v1.alloc (.cells #[.int .i64 0, .int .i64 0] 36)).drew.alloc (.cells #[.int .i64 0, .int .i64 0] 36))) := hid (al_two2 v1)
        go_simp
        go_wp2_with fail
        refine hK.out _ _ (HCC.out _ HA2) (fun hHeld2 => ?_)
        clear hK K
        try simp only [Act.put, List.setIfInBounds_toArray, List.set_cons_zero, List.set_cons_succ]
        obtain ⟨g1, g2⟩ := al2d v1
        obtain ⟨X2, hX2⟩ : ∃ X, Hid (((v1.alloc (.cells #[.int .i64 0, .int .i64 0] 36)).alloc (.cells #[.int .i64 0, .int .i64 0] 36)).drew = X) := ⟨_, rfl⟩
        rw [hX2.out] at g1 g2
        have HA3 : Hid (Below v1.heap.size v1 X2) := hid (by rw [← hX2.out]; exact al_two2d v1)
        have hX2' := hX2.out
        rw [hX2']
        clear hX2' hHeld1 hHeld2
        obtain ⟨z0, z1, zf⟩ := pcells_of (show X2.heap[v1.heap.size]? = some (.cells #[.int .i64 0, .int .i64 0] 36) from g1)
        obtain ⟨y0, y1, yf⟩ := pcells_of (show X2.heap[v1.heap.size + 1]? = some (.cells #[.int .i64 0, .int .i64 0] 36) from g2)
        refine wpAnyH_ready (rs := [11]) (by kernel_rfl) (by simp) ?_
        refine AllReadyH.cons (o := _) rfl (fun K hK => ?_) AllReadyH.nil
        have HA4 : Hid (Below v1.heap.size v1 (StoP X2 (v1.heap.size) (C 0) (T 0))) := hid (StoP.below HA3.out (by omega))
        have k1 := StoP.same (x := (C 0)) (y := (T 0)) g1
        have k2 := StoP.other (x := (C 0)) (y := (T 0)) (p := v1.heap.size) (q := v1.heap.size + 1) (by omega) g2
        unfold StoP at HA4 k1 k2
        go_simp
        go_wp2_with fail
        refine hK.out _ _ (HCC.out _ HA4) (fun hHeld3 => ?_)
        clear hK K
        try simp only [Act.put, List.setIfInBounds_toArray, List.set_cons_zero, List.set_cons_succ]
        obtain ⟨X3, hX3⟩ : ∃ X, Hid ((X2.setCell ⟨v1.heap.size, 0, none⟩ (.int .i64 (C 0))).setCell ⟨v1.heap.size, 1, none⟩ (.int .i64 (T 0)) = X) := ⟨_, rfl⟩
        rw [hX3.out] at HA4 k1 k2
        have hX3' := hX3.out
        rw [hX3']
        clear hX3' hHeld3 z0 z1 zf y0 y1 yf
        obtain ⟨y0, y1, yf⟩ := pcells_of (show X3.heap[v1.heap.size + 1]? = some (.cells #[.int .i64 0, .int .i64 0] 36) from k2)
        refine wpAnyH_ready (rs := [12]) (by kernel_rfl) (by simp) ?_
        refine AllReadyH.cons (o := _) rfl (fun K hK => ?_) AllReadyH.nil
        have HA5 : Hid (Below v1.heap.size v1 (StoP X3 (v1.heap.size + 1) (C L) (T L))) := hid (StoP.below HA4.out (by omega))
        have k3 := StoP.same (x := (C L)) (y := (T L)) k2
        have k4 := StoP.other (x := (C L)) (y := (T L)) (p := v1.heap.size + 1) (q := v1.heap.size) (by omega) k1
        unfold StoP at HA5 k3 k4
        go_simp
        go_wp2_with fail
        refine hK.out _ _ (HCC.out _ HA5) (fun hHeld4 => ?_)
        clear hK K
        try simp only [Act.put, List.setIfInBounds_toArray, List.set_cons_zero, List.set_cons_succ]
        refine wpAnyH_done (by kernel_rfl) ?_ _
        exact HR.out _ _ ⟨v1.heap.size, v1.heap.size + 1, rfl, ⟨k4, k3⟩, HA5⟩
      · have HA1 : Hid (Below v1.heap.size v1 (v1.alloc (.cells #[.int .i64 0, .int .i64 0] 36)).drew) := hid (al_two1 v1)
        go_simp
        go_wp2_with fail
        refine hK.out _ _ (HCC.out _ HA1) (fun hHeld1 => ?_)
        clear hK K
        try simp only [Act.put, List.setIfInBounds_toArray, List.set_cons_zero, List.set_cons_succ]
        refine wpAnyH_ready (rs := [9]) (by kernel_rfl) (by simp) ?_
        refine AllReadyH.cons (o := _) rfl (fun K hK => ?_) AllReadyH.nil
        have HA2 : Hid (Below v1.heap.size v1 ((v1.alloc (.cells #[.int .i64 0, .int .i64 0] 36)).drew.alloc (.cells #[.int .i64 0, .int .i64 0] 36))) := hid (al_two2 v1)
        go_simp
        go_wp2_with fail
        refine hK.out _ _ (HCC.out _ HA2) (fun hHeld2 => ?_)
        clear hK K
        try simp only [Act.put, List.setIfInBounds_toArray, List.set_cons_zero, List.set_cons_succ]
        obtain ⟨g1, g2⟩ := al2d v1
        obtain ⟨X2, hX2⟩ : ∃ X, Hid (((v1.alloc (.cells #[.int .i64 0, .int .i64 0] 36)).alloc (.cells #[.int .i64 0, .int .i64 0] 36)).drew = X) := ⟨_, rfl⟩
        rw [hX2.out] at g1 g2
        have HA3 : Hid (Below v1.heap.size v1 X2) := hid (by rw [← hX2.out]; exact al_two2d v1)
        have hX2' := hX2.out
        rw [hX2']
        clear hX2' hHeld1 hHeld2
        obtain ⟨z0, z1, zf⟩ := pcells_of (show X2.heap[v1.heap.size + 1]? = some (.cells #[.int .i64 0, .int .i64 0] 36) from g2)
        obtain ⟨y0, y1, yf⟩ := pcells_of (show X2.heap[v1.heap.size]? = some (.cells #[.int .i64 0, .int .i64 0] 36) from g1)
        refine wpAnyH_ready (rs := [11]) (by kernel_rfl) (by simp) ?_
        refine AllReadyH.cons (o := _) rfl (fun K hK => ?_) AllReadyH.nil
        have HA4 : Hid (Below v1.heap.size v1 (StoP X2 (v1.heap.size + 1) (C 0) (T 0))) := hid (StoP.below HA3.out (by omega))
        have k1 := StoP.same (x := (C 0)) (y := (T 0)) g2
        have k2 := StoP.other (x := (C 0)) (y := (T 0)) (p := v1.heap.size + 1) (q := v1.heap.size) (by omega) g1
        unfold StoP at HA4 k1 k2
        go_simp
        go_wp2_with fail
        refine hK.out _ _ (HCC.out _ HA4) (fun hHeld3 => ?_)
        clear hK K
        try simp only [Act.put, List.setIfInBounds_toArray, List.set_cons_zero, List.set_cons_succ]
        obtain ⟨X3, hX3⟩ : ∃ X, Hid ((X2.setCell ⟨v1.heap.size + 1, 0, none⟩ (.int .i64 (C 0))).setCell ⟨v1.heap.size + 1, 1, none⟩ (.int .i64 (T 0)) = X) := ⟨_, rfl⟩
        rw [hX3.out] at HA4 k1 k2
        have hX3' := hX3.out
        rw [hX3']
        clear hX3' hHeld3 z0 z1 zf y0 y1 yf
        obtain ⟨y0, y1, yf⟩ := pcells_of (show X3.heap[v1.heap.size]? = some (.cells #[.int .i64 0, .int .i64 0] 36) from k2)
        refine wpAnyH_ready (rs := [12]) (by kernel_rfl) (by simp) ?_
        refine AllReadyH.cons (o := _) rfl (fun K hK => ?_) AllReadyH.nil
        have HA5 : Hid (Below v1.heap.size v1 (StoP X3 (v1.heap.size) (C L) (T L))) := hid (StoP.below HA4.out (by omega))
        have k3 := StoP.same (x := (C L)) (y := (T L)) k2
        have k4 := StoP.other (x := (C L)) (y := (T L)) (p := v1.heap.size) (q := v1.heap.size + 1) (by omega) k1
        unfold StoP at HA5 k3 k4
        go_simp
        go_wp2_with fail
        refine hK.out _ _ (HCC.out _ HA5) (fun hHeld4 => ?_)
        clear hK K
        try simp only [Act.put, List.setIfInBounds_toArray, List.set_cons_zero, List.set_cons_succ]
        refine wpAnyH_done (by kernel_rfl) ?_ _
        exact HR.out _ _ ⟨v1.heap.size + 1, v1.heap.size, rfl, ⟨k4, k3⟩, HA5⟩
    · rintro a' U ⟨p, q, rfl, ⟨hp1, hq1⟩, HU⟩
      simp only [Act.put, List.setIfInBounds_toArray, List.set_cons_zero, List.set_cons_succ]
      have HBU := hid (HB1.out.trans (HU.out.mono HB1.out.size))
      have HKP : Hid (∀ W, Hid (Below U.heap.size U W) → (W.cell? ⟨p, 0, none⟩ = some (.int .i64 (C 0)) ∧ W.cell? ⟨p, 1, none⟩ = some (.int .i64 (T 0))) ∧ W.cell? ⟨q, 0, none⟩ = some (.int .i64 (C L)) ∧ W.cell? ⟨q, 1, none⟩ = some (.int .i64 (T L))) := fun W h => by
        have t1 := pcells_of ((h.out.block _ (Array.getElem?_eq_some_iff.1 hp1).1).trans hp1)
        have t2 := pcells_of ((h.out.block _ (Array.getElem?_eq_some_iff.1 hq1).1).trans hq1)
        exact ⟨⟨t1.1, t1.2.1⟩, t2.1, t2.2.1⟩
      obtain ⟨⟨p0, p1⟩, q0, q1'⟩ := HKP.out U (Below.refl _ _)
      have HLT := hid (fun W => ft_low HG.out hL W)
      have HSW : Hid (w.heap.size < W0.heap.size) := hid (HK.out W0 (Below.refl _ _)).2.1
      have HPU : Hid (p < U.heap.size) := hid (Array.getElem?_eq_some_iff.1 hp1).1
      obtain ⟨wX, wY⟩ := ft_wrap HG.out hL
      have HCK := hid (fun W => Check_any 0 (ftN C T l) (ftD C T l) W)
      have HCO := hid (fun W => Check_any (ftO C T l) (ftN C T l) (ftD C T l) W)
      have HFW := hid (ft_off HG.out)
      have HFG := hid (ft_iff HG.out)
      have HFL := hid (fun W => ft_flo HG.out W)
      have HWM := hid (fun W hb hc => ft_wor (cap := cap) HG.out HP.out W hb hc)
      have HOK := hid (fun v hg h1 h2 => @ft_ok C T l v hg h1 h2)
      have HBAD := hid (fun E h1 h2 => @ft_bad C T l E h1 h2)
      have HWE := hid (fun x : Int => ck_e x (ftN C T l) (ftD C T l))
      generalize hX : T L - T 0 = X at *
      generalize hY : C L - C 0 = Y at *
      generalize ftN C T l = P at *
      generalize ftD C T l = Q at *
      generalize floV (C 0) P Q = F at *
      generalize ftO C T l = O at *
      generalize hx0 : C 0 = x0 at *
      generalize hy0 : T 0 = y0 at *
      generalize hxL : C L = xL at *
      generalize hyL : T L = yL at *
      clear hx0 hy0 hxL hyL
      clear hq1 hp1 hcl
      go_wp2_with fail
      refine (HLT.out _).mono ?_
      rintro e v2 ⟨rfl, hb⟩
      have HU2 : Hid (Below U.heap.size U v2) := hid hb
      have HB2 := hid (HBU.out.trans (hb.mono HBU.out.size))
      clear hb
      have HK8 := hid (fun W => @ckbox2 v2 W 0 P Q)
      have HC8 := hid (cnew v2 (CBox 0 P Q))
      obtain ⟨V3, hV3⟩ : ∃ V, Hid (v2.alloc (CBox 0 P Q) = V) := ⟨_, rfl⟩
      rw [hV3.out] at HK8 HC8
      obtain ⟨⟨z0, z1, z2, zf⟩, zs, zb⟩ := HK8.out V3 (Below.refl _ _)
      have HB3 := hid (HB2.out.trans (zb.mono HB2.out.size))
      have HU3 := hid (HU2.out.trans (zb.mono HU2.out.size))
      have HZW : Hid (W0.heap.size ≤ v2.heap.size ∧ U.heap.size ≤ v2.heap.size) := hid ⟨HB2.out.size, HU2.out.size⟩
      unfold CBox at hV3
      have hV3' := hV3.out
      obtain ⟨z, hz⟩ : ∃ t, Hid (v2.heap.size = t) := ⟨_, rfl⟩
      have hz' := hz.out
      rw [hz.out] at HK8 HC8 z0 z1 z2 zf zs HZW
      clear zb
      go_wp2_with fail
      refine (HCK.out _).mono ?_
      rintro e v4 ⟨rfl, hb⟩
      have HV4 := hid hb
      have HB4 := hid (HB3.out.trans (hb.mono HB3.out.size))
      have HU4 := hid (HU3.out.trans (hb.mono HU3.out.size))
      clear hb
      obtain ⟨⟨z0, z1, z2, zf⟩, zs, _⟩ := HK8.out v4 HV4.out
      obtain ⟨⟨r0, r1, r2, rf⟩, rs, _⟩ := HK.out v4 HB4.out
      have HWE0 := HWE.out 0
      by_cases hc0 : ckB 0 P Q = true
      · have HPZ : Hid (p ≠ z) := hid (by have := HZW.out; have := HPU.out; omega)
        have hE0 : ckE 0 P Q = 0 := by rw [HWE0, if_pos hc0]
        rw [hE0]
        obtain ⟨⟨p0, p1⟩, _, _⟩ := HKP.out v4 HU4
        obtain ⟨wO, wO2, wO3⟩ := HFW.out
        go_wp2_with fail
        refine wp_region_held_drew (S := fun W => (W.cell? ⟨p, 0, none⟩ = some (.int .i64 x0) ∧ W.cell? ⟨p, 1, none⟩ = some (.int .i64 y0)) ∧ W.cell? ⟨z, 1, none⟩ = some (.int .i64 (P : Int)) ∧ W.cell? ⟨z, 2, none⟩ = some (.int .i64 (Q : Int))) (by kernel_rfl) ⟨⟨p0, p1⟩, z1, z2⟩ (fun hHeld => ?_)
        refine take_at 0 39 (.pointer (some ⟨p, 1, none⟩)) rfl rfl (by kernel_rfl) (by kernel_rfl) (by kernel_rfl) (fun _ _ _ h => h) (Or.inl ⟨by rfl, fun w hSw => by (try dsimp only at hSw); go_simp⟩) (by assumption) ?_
        simp only [Act.put, List.setIfInBounds_toArray, List.set_cons_zero, List.set_cons_succ]
        refine take_at 1 40 (.int .i64 y0) rfl rfl (by kernel_rfl) (by kernel_rfl) (by kernel_rfl) (fun _ _ _ h => h) (Or.inl ⟨by rfl, fun w hSw => by (try dsimp only at hSw); go_simp⟩) (by assumption) ?_
        simp only [Act.put, List.setIfInBounds_toArray, List.set_cons_zero, List.set_cons_succ]
        refine take_at 2 41 (.pointer (some ⟨p, 0, none⟩)) rfl rfl (by kernel_rfl) (by kernel_rfl) (by kernel_rfl) (fun _ _ _ h => h) (Or.inl ⟨by rfl, fun w hSw => by (try dsimp only at hSw); go_simp⟩) (by assumption) ?_
        simp only [Act.put, List.setIfInBounds_toArray, List.set_cons_zero, List.set_cons_succ]
        refine take_at 3 42 (.int .i64 x0) rfl rfl (by kernel_rfl) (by kernel_rfl) (by kernel_rfl) (fun _ _ _ h => h) (Or.inl ⟨by rfl, fun w hSw => by (try dsimp only at hSw); go_simp⟩) (by assumption) ?_
        simp only [Act.put, List.setIfInBounds_toArray, List.set_cons_zero, List.set_cons_succ]
        refine take_at 4 43 (.pointer (some ⟨z, 1, none⟩)) rfl rfl (by kernel_rfl) (by kernel_rfl) (by kernel_rfl) (fun _ _ _ h => h) (Or.inl ⟨by rfl, fun w hSw => by (try dsimp only at hSw); go_simp⟩) (by assumption) ?_
        simp only [Act.put, List.setIfInBounds_toArray, List.set_cons_zero, List.set_cons_succ]
        refine take_at 5 44 (.int .i64 (P : Int)) rfl rfl (by kernel_rfl) (by kernel_rfl) (by kernel_rfl) (fun _ _ _ h => h) (Or.inl ⟨by rfl, fun w hSw => by (try dsimp only at hSw); go_simp⟩) (by assumption) ?_
        simp only [Act.put, List.setIfInBounds_toArray, List.set_cons_zero, List.set_cons_succ]
        refine take_at 6 45 (.pointer (some ⟨z, 2, none⟩)) rfl rfl (by kernel_rfl) (by kernel_rfl) (by kernel_rfl) (fun _ _ _ h => h) (Or.inl ⟨by rfl, fun w hSw => by (try dsimp only at hSw); go_simp⟩) (by assumption) ?_
        simp only [Act.put, List.setIfInBounds_toArray, List.set_cons_zero, List.set_cons_succ]
        refine take_at 7 46 (.int .i64 (Q : Int)) rfl rfl (by kernel_rfl) (by kernel_rfl) (by kernel_rfl) (fun _ _ _ h => h) (Or.inl ⟨by rfl, fun w hSw => by (try dsimp only at hSw); go_simp⟩) (by assumption) ?_
        simp only [Act.put, List.setIfInBounds_toArray, List.set_cons_zero, List.set_cons_succ]
        refine wpAnyH_ready (rs := [8]) (by kernel_rfl) (by simp) ?_
        refine AllReadyH.cons (o := _) rfl (fun K hK => ?_) AllReadyH.nil
        go_simp
        refine (HFL.out _).mono ?_
        rintro e v5 ⟨rfl, m, rfl⟩
        go_wp2_with fail
        refine hK.out _ _ ⟨⟨p0, p1⟩, z1, z2⟩ (fun hHeld1 => ?_)
        clear hK K
        try simp only [Act.put, List.setIfInBounds_toArray, List.set_cons_zero, List.set_cons_succ]
        refine take_at 9 48 (.int .i64 O) rfl rfl (by kernel_rfl) (by kernel_rfl) (by kernel_rfl) (fun _ _ _ h => h) (Or.inl ⟨by rfl, fun w hSw => by (try dsimp only at hSw); go_simp⟩) (by assumption) ?_
        simp only [Act.put, List.setIfInBounds_toArray, List.set_cons_zero, List.set_cons_succ]
        refine take_at 10 49 (.pointer (some ⟨z, 0, none⟩)) rfl rfl (by kernel_rfl) (by kernel_rfl) (by kernel_rfl) (fun _ _ _ h => h) (Or.inl ⟨by rfl, fun w hSw => by (try dsimp only at hSw); go_simp⟩) (by assumption) ?_
        simp only [Act.put, List.setIfInBounds_toArray, List.set_cons_zero, List.set_cons_succ]
        have hcz : v4.heap[z]? = some (CBox 0 P Q) := (HV4.out.block _ (Array.getElem?_eq_some_iff.1 HC8.out).1).trans HC8.out
        have hcz5 := sto_off (O := O) (show (v4.drewN (1 + m)).heap[z]? = some (CBox 0 P Q) from hcz)
        refine wpAnyH_ready (rs := [11]) (by kernel_rfl) (by simp) ?_
        refine AllReadyH.cons (o := _) rfl (fun K hK => ?_) AllReadyH.nil
        go_simp
        go_wp2_with fail
        refine hK.out _ _ (sto_keep ⟨⟨p0, p1⟩, z1, z2⟩ HPZ.out) (fun hHeld2 => ?_)
        clear hK K
        try simp only [Act.put, List.setIfInBounds_toArray, List.set_cons_zero, List.set_cons_succ]
        refine wpAnyH_done (by kernel_rfl) ?_ _
        have HB5 : Hid (Below W0.heap.size W0 ((v4.drewN (1 + m)).setCell ⟨z, 0, none⟩ (.int .i64 O))) := hid (Below.setCell (below_drewN HB4.out (1 + m)) HZW.out.1 _)
        obtain ⟨V5, hV5⟩ : ∃ V, Hid ((v4.drewN (1 + m)).setCell ⟨z, 0, none⟩ (.int .i64 O) = V) := ⟨_, rfl⟩
        rw [hV5.out] at HB5 hcz5
        have hV5' := hV5.out
        try rw [hV5']
        have HKZ : Hid (∀ W, Below V5.heap.size V5 W → W.cell? ⟨z, 0, none⟩ = some (.int .i64 O) ∧ W.cell? ⟨z, 1, none⟩ = some (.int .i64 (P : Int)) ∧ W.cell? ⟨z, 2, none⟩ = some (.int .i64 (Q : Int)) ∧ (∀ o, W.frozen? ⟨z, o, none⟩ = false)) := fun W h => ccells_of ((h.block _ (Array.getElem?_eq_some_iff.1 hcz5).1).trans hcz5)
        clear hHeld hHeld1 hHeld2 z0 z1 z2 zf p0 p1 r0 r1 r2 rf rs zs
        obtain ⟨z0, z1, z2, zf⟩ := HKZ.out V5 (Below.refl _ _)
        go_wp2_with fail
        refine (HCO.out _).mono ?_
        rintro e v6 ⟨rfl, hb⟩
        have HV6 := hid hb
        have HB6 := hid (HB5.out.trans (hb.mono HB5.out.size))
        clear hb
        obtain ⟨z0, z1, z2, zf⟩ := HKZ.out v6 HV6.out
        obtain ⟨⟨r0, r1, r2, rf⟩, rs, _⟩ := HK.out v6 HB6.out
        have HWE1 := HWE.out O
        by_cases hc1 : ckB O P Q = true
        · have hE1 : ckE O P Q = 0 := by rw [HWE1, if_pos hc1]
          rw [hE1]
          have HGD := hid (HFG.out.2 ⟨hc0, hc1⟩)
          have HB6D : Hid (Below w.heap.size w v6.drew) := hid (HK.out _ HB6.out).2.2.drew
          have HWC := hid (HWM.out _ HB6D.out hc1)
          have HZS : Hid (z ≠ w.heap.size) := hid (by have := HZW.out; have := HSW.out; omega)
          go_wp2_with fail
          refine wp_region_held_drew (S := fun W => W.cell? ⟨z, 0, none⟩ = some (.int .i64 O) ∧ W.cell? ⟨z, 1, none⟩ = some (.int .i64 (P : Int)) ∧ W.cell? ⟨z, 2, none⟩ = some (.int .i64 (Q : Int))) (by kernel_rfl) ⟨z0, z1, z2⟩ (fun hHeld => ?_)
          refine take_at 0 54 (.agg #[.int .i64 O, .int .i64 (P : Int), .int .i64 (Q : Int)]) rfl rfl (by kernel_rfl) (by kernel_rfl) (by kernel_rfl) (fun _ _ _ h => h) (Or.inl ⟨by rfl, fun w hSw => by (try dsimp only at hSw); go_simp⟩) (by assumption) ?_
          simp only [Act.put, List.setIfInBounds_toArray, List.set_cons_zero, List.set_cons_succ]
          refine take_at 1 55 (.agg #[.int .i64 O, .int .i64 (P : Int), .int .i64 (Q : Int)]) rfl rfl (by kernel_rfl) (by kernel_rfl) (by kernel_rfl) (fun _ _ _ h => h) (Or.inl ⟨by rfl, fun w hSw => by (try dsimp only at hSw); go_simp⟩) (by assumption) ?_
          simp only [Act.put, List.setIfInBounds_toArray, List.set_cons_zero, List.set_cons_succ]
          refine take_at 2 56 (.slice (some ⟨b, off, none⟩) l cap) rfl rfl (by kernel_rfl) (by kernel_rfl) (by kernel_rfl) (fun _ _ _ h => h) (Or.inl ⟨by rfl, fun w hSw => by (try dsimp only at hSw); go_simp⟩) (by assumption) ?_
          simp only [Act.put, List.setIfInBounds_toArray, List.set_cons_zero, List.set_cons_succ]
          refine wpAnyH_ready (rs := [3]) (by kernel_rfl) (by simp) ?_
          refine AllReadyH.cons (o := _) rfl (fun K hK => ?_) AllReadyH.nil
          go_simp
          refine HWC.out.mono ?_
          rintro e v7 ⟨⟨v, rfl, hv0, _, hv1⟩, hb⟩
          have HB7 := hid (HB6.out.drew.trans (hb.mono HB6.out.drew.size))
          have hz7 := HKZ.out v7 (HV6.out.drew.trans (hb.mono HV6.out.drew.size))
          have HFF := hid (HOK.out v HGD.out hv0 hv1)
          clear hb hv0 hv1
          obtain ⟨⟨r0, r1, r2, rf⟩, rs, _⟩ := HK.out v7 HB7.out
          go_wp2_with fail
          refine hK.out _ _ ⟨hz7.1, hz7.2.1, hz7.2.2.1⟩ (fun hHeld1 => ?_)
          clear hK K
          try simp only [Act.put, List.setIfInBounds_toArray, List.set_cons_zero, List.set_cons_succ]
          refine wpAnyH_ready (rs := [4]) (by kernel_rfl) (by simp) ?_
          refine AllReadyH.cons (o := _) rfl (fun K hK => ?_) AllReadyH.nil
          go_simp
          go_wp2_with fail
          refine hK.out _ _ (sto3_keep ⟨hz7.1, hz7.2.1, hz7.2.2.1⟩ HZS.out) (fun hHeld2 => ?_)
          clear hK K
          try simp only [Act.put, List.setIfInBounds_toArray, List.set_cons_zero, List.set_cons_succ]
          refine wpAnyH_ready (rs := [5]) (by kernel_rfl) (by simp) ?_
          refine AllReadyH.cons (o := _) rfl (fun K hK => ?_) AllReadyH.nil
          go_simp
          go_wp2_with fail
          refine hK.out _ _ hHeld2 (fun hHeld3 => ?_)
          clear hK K
          try simp only [Act.put, List.setIfInBounds_toArray, List.set_cons_zero, List.set_cons_succ]
          refine wpAnyH_ready (rs := [6]) (by kernel_rfl) (by simp) ?_
          refine AllReadyH.cons (o := _) rfl (fun K hK => ?_) AllReadyH.nil
          go_simp
          go_wp2_with fail
          refine hK.out _ _ hHeld2 (fun hHeld4 => ?_)
          clear hK K
          try simp only [Act.put, List.setIfInBounds_toArray, List.set_cons_zero, List.set_cons_succ]
          refine wpAnyH_done (by kernel_rfl) ?_ _
          go_wp2
          exact bodyPost_ret (v := .tuple #[.agg #[.int .i64 O, .int .i64 (P : Int), .int .i64 (Q : Int)], .int .i64 v, .int .i64 0]) (by simp [results, Try.results8, go_sem, r0, r1, r2]) rfl ⟨HFF.out, Below.setCell (Below.setCell (Below.setCell (HK.out _ HB7.out).2.2 (Nat.le_refl _) _) (Nat.le_refl _) _) (Nat.le_refl _) _⟩
        · have hE0 : ckE O P Q = 130 := by rw [HWE1, if_neg hc1]
          rw [hE0]
          have HF := hid (HBAD.out 130 (by decide) (fun h => hc1 (HFG.out.1 h).2))
          go_wp2
          exact bodyPost_ret (v := .tuple #[.agg #[.int .i64 0, .int .i64 0, .int .i64 0], .int .i64 0, .int .i64 130]) (by simp [results, Try.results8, go_sem, r0, r1, r2]) rfl ⟨HF.out, Below.setCell (Below.setCell (Below.setCell (HK.out _ HB6.out).2.2 (Nat.le_refl _) _) (Nat.le_refl _) _) (Nat.le_refl _) _⟩
      · have hE0 : ckE 0 P Q = 130 := by rw [HWE0, if_neg hc0]
        rw [hE0]
        have HF := hid (HBAD.out 131 (by decide) (fun h => hc0 (HFG.out.1 h).1))
        go_wp2
        exact bodyPost_ret (v := .tuple #[.agg #[.int .i64 0, .int .i64 0, .int .i64 0], .int .i64 0, .int .i64 131]) (by simp [results, Try.results8, go_sem, r0, r1, r2]) rfl ⟨HF.out, Below.setCell (Below.setCell (Below.setCell (HK.out _ HB4.out).2.2 (Nat.le_refl _) _) (Nat.le_refl _) _) (Nat.le_refl _) _⟩
  · have HF := hid (@ft_bad C T l E h0 (fun h => h0 (HEE.out.2 h.1)))
    have h0' : (E == 0) = false := by simpa using h0
    go_wp2
    exact bodyPost_ret (v := .tuple #[.agg #[.int .i64 0, .int .i64 0, .int .i64 0], .int .i64 0, .int .i64 E]) (by simp [results, Try.results8, go_sem, r0, r1, r2]) rfl ⟨HF.out, Below.setCell (Below.setCell (Below.setCell (HK.out _ HB1.out).2.2 (Nat.le_refl _) _) (Nat.le_refl _) _) (Nat.le_refl _) _⟩
end Go.Proofs.Ytfdphegiafccpab
