
/- The law ClockThrough. -/
import Derived.Test.YtfdphegiafccpabP26
import Derived.Test.YtfdphegiafccpabP7
namespace Go.Proofs.Ytfdphegiafccpab
open Go.RowKit Go.IntWalk

/-- The step that a number stands for. -/
def clK (x : Int) : Int := if x < 1 ∨ 1000 < x then 1 else x
theorem clK_in (x : Int) : 1 ≤ clK x ∧ clK x ≤ 1000 := by
  unfold clK
  split <;> omega
def sumK (xs : List Int) : Nat → Int
  | 0 => 0
  | k + 1 => sumK xs k + clK (xs.getD k 0)
theorem sumK_in (xs : List Int) (k : Nat) : 0 ≤ sumK xs k ∧ sumK xs k ≤ 1000 * k := by
  induction k with
  | zero => show 0 ≤ (0 : Int) ∧ (0 : Int) ≤ 1000 * ((0 : Nat) : Int); omega
  | succ k ih =>
    show 0 ≤ sumK xs k + clK (xs.getD k 0) ∧ sumK xs k + clK (xs.getD k 0) ≤ 1000 * ((k + 1 : Nat) : Int)
    have := clK_in (xs.getD k 0)
    omega
/-- The counts and the times of the pairs that are made. -/
def mkC (d : Int) (xs : List Int) (i : Nat) : Int := sumK xs (i + 1) * d
def mkT (o n : Int) (xs : List Int) (i : Nat) : Int := o + sumK xs (i + 1) * n
theorem mk_step (xs : List Int) (d : Int) (k : Nat) (hk : k < 1024) (h1 : 1 ≤ d) (h2 : d ≤ 1000000000) :
    (0 ≤ sumK xs k * d ∧ sumK xs k * d ≤ 1024000000000000) ∧ (1 ≤ clK (xs.getD k 0) * d ∧ clK (xs.getD k 0) * d ≤ 1000000000000) ∧ sumK xs k * d + clK (xs.getD k 0) * d = sumK xs (k + 1) * d ∧ (0 ≤ sumK xs (k + 1) * d ∧ sumK xs (k + 1) * d ≤ 1024000000000000) := by
  have a := sumK_in xs k
  have b := sumK_in xs (k + 1)
  have c := clK_in (xs.getD k 0)
  have p1 : sumK xs k * d ≤ 1024000 * 1000000000 := Int.mul_le_mul (by omega) h2 (by omega) (by omega)
  have p2 : sumK xs (k + 1) * d ≤ 1024000 * 1000000000 := Int.mul_le_mul (by omega) h2 (by omega) (by omega)
  have p3 : clK (xs.getD k 0) * d ≤ 1000 * 1000000000 := Int.mul_le_mul (by omega) h2 (by omega) (by omega)
  have q1 : 0 ≤ sumK xs k * d := Int.mul_nonneg a.1 (by omega)
  have q2 : 0 ≤ sumK xs (k + 1) * d := Int.mul_nonneg b.1 (by omega)
  have q3 : 0 < clK (xs.getD k 0) * d := Int.mul_pos (by omega) (by omega)
  refine ⟨⟨q1, by omega⟩, ⟨by omega, by omega⟩, ?_, q2, by omega⟩
  show _ = (sumK xs k + clK (xs.getD k 0)) * d
  rw [Int.add_mul]
theorem mk_time (o n d : Int) (xs : List Int) (k : Nat) (h : tmE o n d (sumK xs (k + 1) * d) = 0) : tmV o n d (sumK xs (k + 1) * d) = mkT o n xs k ∧ inB (mkC d xs k) = true ∧ inB (mkT o n xs k) = true := by
  obtain ⟨h1, h2, h3⟩ := (tmE_zero _ _ _ _).1 h
  obtain ⟨_, _, d1, _⟩ := ckB_yes h1
  have e : sumK xs (k + 1) * d * n / d = sumK xs (k + 1) * n := by rw [Int.mul_right_comm, Int.mul_ediv_cancel _ (by omega)]
  rw [e] at h3
  refine ⟨?_, h2, h3⟩
  rw [tmV, if_pos h, e, mkT]
theorem mk_good (o n d : Int) (xs : List Int) (m : Nat) (hc : ckB o n d = true) (hm : 2 ≤ m ∧ m ≤ 1024) (hin : ∀ i, i < m → inB (mkC d xs i) = true ∧ inB (mkT o n xs i) = true) :
    FtGood (mkC d xs) (mkT o n xs) m ∧ (∀ i, i < m → ftO (mkC d xs) (mkT o n xs) m + floV (mkC d xs i) (ftN (mkC d xs) (mkT o n xs) m) (ftD (mkC d xs) (mkT o n xs) m) = mkT o n xs i) ∧ (ftN (mkC d xs) (mkT o n xs) m : Int) * d = n * (ftD (mkC d xs) (mkT o n xs) m : Int) := by
  obtain ⟨_, ⟨n1, n2⟩, d1, d2⟩ := ckB_yes hc
  obtain ⟨N, rfl⟩ := Int.eq_ofNat_of_zero_le (show 0 ≤ n by omega)
  obtain ⟨D, rfl⟩ := Int.eq_ofNat_of_zero_le (show 0 ≤ d by omega)
  exact made_good o N D m (fun i => sumK xs (i + 1)) hc hm (fun i _ => by
    show sumK xs (i + 1) < sumK xs (i + 1) + clK (xs.getD (i + 1) 0)
    have := clK_in (xs.getD (i + 1) 0)
    omega) hin
theorem mk_wraps (xs : List Int) (d : Int) (k : Nat) (hk : k < 1024) (h1 : 1 ≤ d) (h2 : d ≤ 1000000000) : sumK xs k * d + clK (xs.getD k 0) * d = sumK xs (k + 1) * d ∧ wrap64 (clK (xs.getD k 0) * d) = clK (xs.getD k 0) * d ∧ wrap64 (sumK xs (k + 1) * d) = sumK xs (k + 1) * d := by
  obtain ⟨_, ⟨s3, s4⟩, s5, s6, s7⟩ := mk_step xs d k hk h1 h2
  exact ⟨s5, wrap64_in _ (by omega), wrap64_in _ (by omega)⟩
theorem mk_times (o n d : Int) (xs : List Int) (k : Nat) (hk : k < 1024) (h1 : 1 ≤ d) (h2 : d ≤ 1000000000) (W : World) : Calls Try.prog 9 #[.agg #[.int .i64 o, .int .i64 n, .int .i64 d], .int .i64 (sumK xs (k + 1) * d)] W fun r w' => r = .returned (.tuple #[.int .i64 (tmV o n d (sumK xs (k + 1) * d)), .int .i64 (tmE o n d (sumK xs (k + 1) * d))]) ∧ Below W.heap.size W w' := by
  obtain ⟨_, _, _, s6, s7⟩ := mk_step xs d k hk h1 h2
  exact Time_any o n d _ W (by omega) (by omega)
theorem clK_is (x y : Int) (h : clK x = y) : (x < 1 → y = 1) ∧ (1000 < x → y = 1) ∧ (¬ x < 1 → ¬ 1000 < x → y = x) := by
  rw [← h]
  unfold clK
  refine ⟨fun h => if_pos (.inl h), fun h => if_pos (.inr h), fun h1 h2 => if_neg (fun h => h.elim h1 h2)⟩
theorem OwnP.keepB {w w' : World} {base k : Nat} {v : Value} {C T : Nat → Int} (h : OwnP w base v k C T) (hb : Below w.heap.size w w') : OwnP w' base v k C T := by
  obtain ⟨h1, h2⟩ := h
  refine ⟨h1, ?_⟩
  rcases h2 with h2 | ⟨g, cap, cur, e1, e2, e3, e4⟩
  · exact .inl h2
  · exact .inr ⟨g, cap, cur, e1, e2, (hb.block g (Array.getElem?_eq_some_iff.1 e3).1).trans e3, e4⟩
theorem OwnP.more {w' : World} {base k : Nat} {v' : Value} {C T : Nat → Int} (h : w'.ownsRow base 36 2 v' (k + 1) (prL C T k ++ [.int .i64 (C k), .int .i64 (T k)])) : OwnP w' base v' (k + 1) C T := h
theorem mk_end {o n d : Int} {xs : List Int} {m : Nat} {O2 P2 Q2 v9 E9 : Int} (hc : ckB o n d = true) (hm : 2 ≤ m ∧ m ≤ 1024) (hin : ∀ i, i < m → inB (mkC d xs i) = true ∧ inB (mkT o n xs i) = true) (h1 : E9 = 0 ↔ FtGood (mkC d xs) (mkT o n xs) m) (h2 : E9 = 0 → O2 = ftO (mkC d xs) (mkT o n xs) m ∧ P2 = (ftN (mkC d xs) (mkT o n xs) m : Int) ∧ Q2 = (ftD (mkC d xs) (mkT o n xs) m : Int) ∧ 0 ≤ v9 ∧ ((∀ i, i < m → ftO (mkC d xs) (mkT o n xs) m + floV (mkC d xs i) (ftN (mkC d xs) (mkT o n xs) m) (ftD (mkC d xs) (mkT o n xs) m) = mkT o n xs i) → v9 = 0)) :
    E9 = 0 ∧ v9 = 0 ∧ P2 * d = n * Q2 ∧ wrap64 (n * Q2) = n * Q2 := by
  obtain ⟨g1, g2, g3⟩ := mk_good o n d xs m hc hm hin
  have hE := h1.2 g1
  obtain ⟨_, e2, e3, _, e5⟩ := h2 hE
  obtain ⟨_, ⟨n1, n2⟩, d1, d2⟩ := ckB_yes hc
  obtain ⟨_, ⟨a1, a2⟩, a3, a4⟩ := ckB_yes g1.2.1
  have p2 : n * Q2 ≤ 1000000000 * 1000000000 := by rw [e3]; exact Int.mul_le_mul n2 a4 (by omega) (by omega)
  have p3 : 0 ≤ n * Q2 := by rw [e3]; exact Int.mul_nonneg (by omega) (by omega)
  refine ⟨hE, e5 g2, by rw [e2, e3]; exact g3, wrap64_in _ (by omega)⟩
theorem idx_facts {l L : Nat} (hL : l - 1 = L) (h2 : 2 ≤ l) (h3 : l ≤ 1024) : IntKind.i64.wrap ((l : Int) - 1) = (L : Int) ∧ (l : Int) - 1 = (L : Int) ∧ wrap64 (L : Int) = (L : Int) ∧ IntKind.i64.wrap (L : Int) = (L : Int) ∧ (L : Int) < (l : Int) ∧ (0 : Int) < (l : Int) ∧ ¬ l = 0 := by
  refine ⟨?_, by omega, wrap64_in _ (by omega), IntWalk.i64_in _ (by omega), by omega, by omega, by omega⟩
  rw [IntWalk.i64_in _ (by omega)]
  omega
theorem cc_facts {w V : World} {b off l L : Nat} {C T : Nat → Int} (hbl : b < w.heap.size) (hcl : ∀ i, i < l → w.cell? ⟨b, off + i * 2, none⟩ = some (.int .i64 (C i)) ∧ w.cell? ⟨b, off + i * 2 + 1, none⟩ = some (.int .i64 (T i))) (hbb : Below w.heap.size w V) (hL : l - 1 = L) (h2 : 2 ≤ l) :
    ∀ W, Hid (Below V.heap.size V W) → ((W.cell? ⟨b, off, none⟩ = some (.int .i64 (C 0)) ∧ W.cell? ⟨b, off + 1, none⟩ = some (.int .i64 (T 0))) ∧ W.cell? ⟨b, off + L * 2, none⟩ = some (.int .i64 (C L)) ∧ W.cell? ⟨b, off + L * 2 + 1, none⟩ = some (.int .i64 (T L))) ∧ Hid (Below V.heap.size V W) := fun W h => by
  have hb2 := hbb.trans (h.out.mono hbb.size)
  have a := hcl 0 (by omega)
  have a' := hcl L (by omega)
  refine ⟨⟨⟨?_, ?_⟩, ?_, ?_⟩, h⟩
  · rw [hb2.cell (p := ⟨b, off, none⟩) hbl]; exact a.1
  · rw [hb2.cell (p := ⟨b, off + 1, none⟩) hbl]; exact a.2
  · rw [hb2.cell (p := ⟨b, off + L * 2, none⟩) hbl]; exact a'.1
  · rw [hb2.cell (p := ⟨b, off + L * 2 + 1, none⟩) hbl]; exact a'.2
theorem thr_time {C T : Nat → Int} {l L : Nat} {O P Q : Int} (h : FtGood C T l) (hL : l - 1 = L) (e1 : O = ftO C T l) (e2 : P = (ftN C T l : Int)) (e3 : Q = (ftD C T l : Int)) (W : World) :
    (Calls Try.prog 9 #[.agg #[.int .i64 O, .int .i64 P, .int .i64 Q], .int .i64 (C 0)] W fun r w' => r = .returned (.tuple #[.int .i64 (T 0), .int .i64 0]) ∧ Below W.heap.size W w') ∧ (Calls Try.prog 9 #[.agg #[.int .i64 O, .int .i64 P, .int .i64 Q], .int .i64 (C L)] W fun r w' => r = .returned (.tuple #[.int .i64 (T L), .int .i64 0]) ∧ Below W.heap.size W w') := by
  obtain ⟨⟨g1, g2⟩, g3, g4⟩ := ft_through h hL
  obtain ⟨⟨gC0, _⟩, gCL, _, _, _⟩ := ft_facts h.1 hL
  rw [← e1, ← e2, ← e3] at g1 g2 g3 g4
  have h1 := Time_any O P Q (C 0) W (by omega) (by omega)
  have h2 := Time_any O P Q (C L) W (by omega) (by omega)
  rw [g1, g2] at h1
  rw [g3, g4] at h2
  exact ⟨h1, h2⟩
set_option maxRecDepth 4000 in
set_option maxHeartbeats 16000000 in
theorem through_walk (sa : Option Addr) (l cap : Nat) (C T : Nat → Int) (o n d : Int) (ska : Option Addr) (m kcap : Nat) (xs : List Int) (w : World) (hp : PrAt w sa l C T) (hl : l ≤ 8796093022208) (_ho : -9223372036854775808 ≤ o ∧ o ≤ 9223372036854775807) (_b2 : -9223372036854775808 ≤ n ∧ n ≤ 9223372036854775807) (_b3 : -9223372036854775808 ≤ d ∧ d ≤ 9223372036854775807) (hu : I64At w ska m xs) (hm : m ≤ 17592186043904) :
    Calls Try.prog 4 #[.slice sa l cap, .agg #[.int .i64 o, .int .i64 n, .int .i64 d], .slice ska m kcap] w fun r w' => r = .returned (.bool true) ∧ Below w.heap.size w w' := by
  have HK := hid (fun W => @ckbox w W o n d)
  have HA := hid (fun W => awake13_any W)
  have HP := hid hp
  have HU := hid hu
  have HB00 : Hid (Below w.heap.size w (w.alloc (CBox o n d))) := (Below.refl _ _).alloc (Nat.le_refl _) _
  obtain ⟨W0, hW0⟩ : ∃ V, Hid (w.alloc (CBox o n d) = V) := ⟨_, rfl⟩
  rw [hW0.out] at HK HB00
  have HAP : Hid (∀ ty, ∃ a' cap' w', (Builtin.append_ #[29, 29] ty #[.slice none 0 0, .slice sa l cap]).run Try.prog W0 = .ok (.slice a' l cap') w' ∧ Hid (PrAt w' a' l C T) ∧ Hid (Below W0.heap.size W0 w')) := hid (fun ty => append_pairs ty sa l cap C T W0 (hp.below HB00.out) hl)
  have HCH := hid (fun W => Check_any o n d W)
  have HTI := hid (fun k W h1 h2 => Time_any o n d k W h1 h2)
  unfold CBox at hW0
  have hW0' := hW0.out
  have HMB := hid hm
  clear hp hu _ho _b2 _b3 hm
  go_enter Try.func4, Try.ntmps4
  go_wp2_with (first
      | (at_builtin; refine wpList_append_pairs rfl _ _ rfl rfl sa l cap (by first | rfl | (simp [Act.eval]; done) | (simp [Act.eval, Act.put]; done)) ?_; obtain ⟨a', cap', w1, hr, HPR, HB1⟩ := HAP.out _; refine ⟨a', cap', w1, hr, ?_⟩; clear hr)
      | fail)
  refine (Fit_any a' l cap' C T w1 HPR.out (by omega)).mono ?_
  rintro e v2 ⟨⟨O, P, Q, v, E, rfl, hE1, hE2⟩, hb⟩
  have HB2 := hid (HB1.out.trans (hb.mono HB1.out.size))
  have HE1 := hid hE1
  have HE2 := hid hE2
  clear hE1 hE2 hb
  have HK7 := hid (fun W => @ckbox2 v2 W O P Q)
  obtain ⟨V3, hV3⟩ : ∃ V, Hid (v2.alloc (CBox O P Q) = V) := ⟨_, rfl⟩
  rw [hV3.out] at HK7
  obtain ⟨⟨z0, z1, z2, zf⟩, zs, zb⟩ := HK7.out V3 (Below.refl _ _)
  have HB3 := hid (HB2.out.trans (zb.mono HB2.out.size))
  unfold CBox at hV3
  have hV3' := hV3.out
  obtain ⟨z, hz⟩ : ∃ t, Hid (v2.heap.size = t) := ⟨_, rfl⟩
  have hz' := hz.out
  rw [hz.out] at HK7 z0 z1 z2 zf zs
  clear zb
  obtain ⟨⟨c0, c1, c2⟩, _⟩ := HK.out V3 HB3.out
  by_cases hE : E = 0
  · subst hE
    have HG := hid (HE1.out.1 rfl)
    obtain ⟨e1, e2, e3, hv0, _⟩ := HE2.out rfl
    obtain ⟨L, hL⟩ : ∃ t, l - 1 = t := ⟨_, rfl⟩
    have HT1 := hid (fun W => (thr_time HG.out hL e1 e2 e3 W).1)
    have HT2 := hid (fun W => (thr_time HG.out hL e1 e2 e3 W).2)
    have hl2 : 2 ≤ l := HG.out.1.1.1
    have hl3 : l ≤ 1024 := HG.out.1.1.2
    clear e1 e2 e3
    obtain ⟨b, off, rfl, hbl, hcl⟩ := HP.out.2 (by omega)
    have hbb := (HK.out V3 HB3.out).2
    have HCC := hid (cc_facts hbl hcl hbb hL hl2)
    obtain ⟨q1, q2, q3, q4, q5, q6, q7⟩ := idx_facts hL hl2 hl3
    have HQ0 : Hid (Below V3.heap.size V3 V3.drew) := (Below.refl _ _).drew
    clear hcl hbb
    go_wp2_with fail
    refine region_merge2 (fun a0 a' w' => ∃ p q : Nat, a' = Act.put (Act.put (Act.put (Act.put (Act.put (Act.put (Act.put (Act.put (Act.put (Act.put (Act.put (a0) (some 34) (.slice (some ⟨b, off, none⟩) l cap)) (some 35) (.pointer (some ⟨b, off, none⟩))) (some 36) (.agg #[.int .i64 (C 0), .int .i64 (T 0)])) (some 37) (.slice (some ⟨b, off, none⟩) l cap)) (some 38) (.slice (some ⟨b, off, none⟩) l cap)) (some 39) (.int .i64 l)) (some 40) (.int .i64 L)) (some 41) (.pointer (some ⟨b, off + L * 2, none⟩))) (some 42) (.agg #[.int .i64 (C L), .int .i64 (T L)])) (some 10) (.pointer (some ⟨p, 0, none⟩))) (some 11) (.pointer (some ⟨q, 0, none⟩)) ∧ TwoP w' p q (C 0) (T 0) (C L) (T L) ∧ Hid (Below V3.heap.size V3 w')) (fun HR => ?_) ?_
    · simp only [Act.put, List.setIfInBounds_toArray, List.set_cons_zero, List.set_cons_succ] at HR
      refine wp_region_held_drew (S := fun W => ((W.cell? ⟨b, off, none⟩ = some (.int .i64 (C 0)) ∧ W.cell? ⟨b, off + 1, none⟩ = some (.int .i64 (T 0))) ∧ W.cell? ⟨b, off + L * 2, none⟩ = some (.int .i64 (C L)) ∧ W.cell? ⟨b, off + L * 2 + 1, none⟩ = some (.int .i64 (T L))) ∧ Hid (Below V3.heap.size V3 W)) (by kernel_rfl) (HCC.out _ HQ0) (fun hHeld => ?_)
      refine take_at 0 34 (.slice (some ⟨b, off, none⟩) l cap) rfl rfl (by kernel_rfl) (by kernel_rfl) (by kernel_rfl) (fun _ _ _ h => h) (Or.inl ⟨by rfl, fun w hSw => by (try dsimp only at hSw); go_simp⟩) (by assumption) ?_
      simp only [Act.put, List.setIfInBounds_toArray, List.set_cons_zero, List.set_cons_succ]
      refine take_at 1 35 (.pointer (some ⟨b, off, none⟩)) rfl rfl (by kernel_rfl) (by kernel_rfl) (by kernel_rfl) (fun _ _ _ h => h) (Or.inl ⟨by rfl, fun w hSw => by (try dsimp only at hSw); go_simp⟩) (by assumption) ?_
      simp only [Act.put, List.setIfInBounds_toArray, List.set_cons_zero, List.set_cons_succ]
      refine take_at 2 36 (.agg #[.int .i64 (C 0), .int .i64 (T 0)]) rfl rfl (by kernel_rfl) (by kernel_rfl) (by kernel_rfl) (fun _ _ _ h => h) (Or.inl ⟨by rfl, fun w hSw => by (try dsimp only at hSw); go_simp⟩) (by assumption) ?_
      simp only [Act.put, List.setIfInBounds_toArray, List.set_cons_zero, List.set_cons_succ]
      refine take_at 3 37 (.slice (some ⟨b, off, none⟩) l cap) rfl rfl (by kernel_rfl) (by kernel_rfl) (by kernel_rfl) (fun _ _ _ h => h) (Or.inl ⟨by rfl, fun w hSw => by (try dsimp only at hSw); go_simp⟩) (by assumption) ?_
      simp only [Act.put, List.setIfInBounds_toArray, List.set_cons_zero, List.set_cons_succ]
      refine take_at 4 38 (.slice (some ⟨b, off, none⟩) l cap) rfl rfl (by kernel_rfl) (by kernel_rfl) (by kernel_rfl) (fun _ _ _ h => h) (Or.inl ⟨by rfl, fun w hSw => by (try dsimp only at hSw); go_simp⟩) (by assumption) ?_
      simp only [Act.put, List.setIfInBounds_toArray, List.set_cons_zero, List.set_cons_succ]
      refine take_at 5 39 (.int .i64 l) rfl rfl (by kernel_rfl) (by kernel_rfl) (by kernel_rfl) (fun _ _ _ h => h) (Or.inl ⟨by rfl, fun w hSw => by (try dsimp only at hSw); go_simp⟩) (by assumption) ?_
      simp only [Act.put, List.setIfInBounds_toArray, List.set_cons_zero, List.set_cons_succ]
      refine take_at 6 40 (.int .i64 L) rfl rfl (by kernel_rfl) (by kernel_rfl) (by kernel_rfl) (fun _ _ _ h => h) (Or.inl ⟨by rfl, fun w hSw => by (try dsimp only at hSw); go_simp⟩) (by assumption) ?_
      simp only [Act.put, List.setIfInBounds_toArray, List.set_cons_zero, List.set_cons_succ]
      refine take_at 7 41 (.pointer (some ⟨b, off + L * 2, none⟩)) rfl rfl (by kernel_rfl) (by kernel_rfl) (by kernel_rfl) (fun _ _ _ h => h) (Or.inl ⟨by rfl, fun w hSw => by (try dsimp only at hSw); go_simp⟩) (by assumption) ?_
      simp only [Act.put, List.setIfInBounds_toArray, List.set_cons_zero, List.set_cons_succ]
      refine take_at 8 42 (.agg #[.int .i64 (C L), .int .i64 (T L)]) rfl rfl (by kernel_rfl) (by kernel_rfl) (by kernel_rfl) (fun _ _ _ h => h) (Or.inl ⟨by rfl, fun w hSw => by (try dsimp only at hSw); go_simp⟩) (by assumption) ?_
      simp only [Act.put, List.setIfInBounds_toArray, List.set_cons_zero, List.set_cons_succ]
      refine wpAnyH_ready (rs := [9, 10]) (by kernel_rfl) (by simp) ?_
      refine AllReadyH.cons (o := _) rfl (fun K hK => ?_) (AllReadyH.cons (o := _) rfl (fun K hK => ?_) AllReadyH.nil)
      · have HA1 : Hid (Below V3.heap.size V3 (V3.alloc (.cells #[.int .i64 0, .int .i64 0] 36)).drew) := hid (al_two1 V3)
        go_simp
        go_wp2_with fail
        refine hK.out _ _ (HCC.out _ HA1) (fun hHeld1 => ?_)
        clear hK K
        try simp only [Act.put, List.setIfInBounds_toArray, List.set_cons_zero, List.set_cons_succ]
        refine wpAnyH_ready (rs := [10]) (by kernel_rfl) (by simp) ?_
        refine AllReadyH.cons (o := _) rfl (fun K hK => ?_) AllReadyH.nil
        have HA2 : Hid (Below V3.heap.size V3 ((V3.alloc (.cells #[.int .i64 0, .int .i64 0] 36)).drew.alloc (.cells #[.int .i64 0, .int .i64 0] 36))) := hid (al_two2 V3)
        go_simp
        go_wp2_with fail
        refine hK.out _ _ (HCC.out _ HA2) (fun hHeld2 => ?_)
        clear hK K
        try simp only [Act.put, List.setIfInBounds_toArray, List.set_cons_zero, List.set_cons_succ]
        obtain ⟨g1, g2⟩ := al2d V3
        obtain ⟨X2, hX2⟩ : ∃ X, Hid (((V3.alloc (.cells #[.int .i64 0, .int .i64 0] 36)).alloc (.cells #[.int .i64 0, .int .i64 0] 36)).drew = X) := ⟨_, rfl⟩
        rw [hX2.out] at g1 g2
        have HA3 : Hid (Below V3.heap.size V3 X2) := hid (by rw [← hX2.out]; exact al_two2d V3)
        have hX2' := hX2.out
        rw [hX2']
        clear hX2' hHeld1 hHeld2
        obtain ⟨z0, z1, zf⟩ := pcells_of (show X2.heap[V3.heap.size]? = some (.cells #[.int .i64 0, .int .i64 0] 36) from g1)
        obtain ⟨y0, y1, yf⟩ := pcells_of (show X2.heap[V3.heap.size + 1]? = some (.cells #[.int .i64 0, .int .i64 0] 36) from g2)
        refine wpAnyH_ready (rs := [11]) (by kernel_rfl) (by simp) ?_
        refine AllReadyH.cons (o := _) rfl (fun K hK => ?_) AllReadyH.nil
        have HA4 : Hid (Below V3.heap.size V3 (StoP X2 (V3.heap.size) (C 0) (T 0))) := hid (StoP.below HA3.out (by omega))
        have k1 := StoP.same (x := (C 0)) (y := (T 0)) g1
        have k2 := StoP.other (x := (C 0)) (y := (T 0)) (p := V3.heap.size) (q := V3.heap.size + 1) (by omega) g2
        unfold StoP at HA4 k1 k2
        go_simp
        go_wp2_with fail
        refine hK.out _ _ (HCC.out _ HA4) (fun hHeld3 => ?_)
        clear hK K
        try simp only [Act.put, List.setIfInBounds_toArray, List.set_cons_zero, List.set_cons_succ]
        obtain ⟨X3, hX3⟩ : ∃ X, Hid ((X2.setCell ⟨V3.heap.size, 0, none⟩ (.int .i64 (C 0))).setCell ⟨V3.heap.size, 1, none⟩ (.int .i64 (T 0)) = X) := ⟨_, rfl⟩
        rw [hX3.out] at HA4 k1 k2
        have hX3' := hX3.out
        rw [hX3']
        clear hX3' hHeld3 z0 z1 zf y0 y1 yf
        obtain ⟨y0, y1, yf⟩ := pcells_of (show X3.heap[V3.heap.size + 1]? = some (.cells #[.int .i64 0, .int .i64 0] 36) from k2)
        refine wpAnyH_ready (rs := [12]) (by kernel_rfl) (by simp) ?_
        refine AllReadyH.cons (o := _) rfl (fun K hK => ?_) AllReadyH.nil
        have HA5 : Hid (Below V3.heap.size V3 (StoP X3 (V3.heap.size + 1) (C L) (T L))) := hid (StoP.below HA4.out (by omega))
        have k3 := StoP.same (x := (C L)) (y := (T L)) k2
        have k4 := StoP.other (x := (C L)) (y := (T L)) (p := V3.heap.size + 1) (q := V3.heap.size) (by omega) k1
        unfold StoP at HA5 k3 k4
        go_simp
        go_wp2_with fail
        refine hK.out _ _ (HCC.out _ HA5) (fun hHeld4 => ?_)
        clear hK K
        try simp only [Act.put, List.setIfInBounds_toArray, List.set_cons_zero, List.set_cons_succ]
        refine wpAnyH_done (by kernel_rfl) ?_ _
        exact HR.out _ _ ⟨V3.heap.size, V3.heap.size + 1, rfl, ⟨k4, k3⟩, HA5⟩
      · have HA1 : Hid (Below V3.heap.size V3 (V3.alloc (.cells #[.int .i64 0, .int .i64 0] 36)).drew) := hid (al_two1 V3)
        go_simp
        go_wp2_with fail
        refine hK.out _ _ (HCC.out _ HA1) (fun hHeld1 => ?_)
        clear hK K
        try simp only [Act.put, List.setIfInBounds_toArray, List.set_cons_zero, List.set_cons_succ]
        refine wpAnyH_ready (rs := [9]) (by kernel_rfl) (by simp) ?_
        refine AllReadyH.cons (o := _) rfl (fun K hK => ?_) AllReadyH.nil
        have HA2 : Hid (Below V3.heap.size V3 ((V3.alloc (.cells #[.int .i64 0, .int .i64 0] 36)).drew.alloc (.cells #[.int .i64 0, .int .i64 0] 36))) := hid (al_two2 V3)
        go_simp
        go_wp2_with fail
        refine hK.out _ _ (HCC.out _ HA2) (fun hHeld2 => ?_)
        clear hK K
        try simp only [Act.put, List.setIfInBounds_toArray, List.set_cons_zero, List.set_cons_succ]
        obtain ⟨g1, g2⟩ := al2d V3
        obtain ⟨X2, hX2⟩ : ∃ X, Hid (((V3.alloc (.cells #[.int .i64 0, .int .i64 0] 36)).alloc (.cells #[.int .i64 0, .int .i64 0] 36)).drew = X) := ⟨_, rfl⟩
        rw [hX2.out] at g1 g2
        have HA3 : Hid (Below V3.heap.size V3 X2) := hid (by rw [← hX2.out]; exact al_two2d V3)
        have hX2' := hX2.out
        rw [hX2']
        clear hX2' hHeld1 hHeld2
        obtain ⟨z0, z1, zf⟩ := pcells_of (show X2.heap[V3.heap.size + 1]? = some (.cells #[.int .i64 0, .int .i64 0] 36) from g2)
        obtain ⟨y0, y1, yf⟩ := pcells_of (show X2.heap[V3.heap.size]? = some (.cells #[.int .i64 0, .int .i64 0] 36) from g1)
        refine wpAnyH_ready (rs := [11]) (by kernel_rfl) (by simp) ?_
        refine AllReadyH.cons (o := _) rfl (fun K hK => ?_) AllReadyH.nil
        have HA4 : Hid (Below V3.heap.size V3 (StoP X2 (V3.heap.size + 1) (C 0) (T 0))) := hid (StoP.below HA3.out (by omega))
        have k1 := StoP.same (x := (C 0)) (y := (T 0)) g2
        have k2 := StoP.other (x := (C 0)) (y := (T 0)) (p := V3.heap.size + 1) (q := V3.heap.size) (by omega) g1
        unfold StoP at HA4 k1 k2
        go_simp
        go_wp2_with fail
        refine hK.out _ _ (HCC.out _ HA4) (fun hHeld3 => ?_)
        clear hK K
        try simp only [Act.put, List.setIfInBounds_toArray, List.set_cons_zero, List.set_cons_succ]
        obtain ⟨X3, hX3⟩ : ∃ X, Hid ((X2.setCell ⟨V3.heap.size + 1, 0, none⟩ (.int .i64 (C 0))).setCell ⟨V3.heap.size + 1, 1, none⟩ (.int .i64 (T 0)) = X) := ⟨_, rfl⟩
        rw [hX3.out] at HA4 k1 k2
        have hX3' := hX3.out
        rw [hX3']
        clear hX3' hHeld3 z0 z1 zf y0 y1 yf
        obtain ⟨y0, y1, yf⟩ := pcells_of (show X3.heap[V3.heap.size]? = some (.cells #[.int .i64 0, .int .i64 0] 36) from k2)
        refine wpAnyH_ready (rs := [12]) (by kernel_rfl) (by simp) ?_
        refine AllReadyH.cons (o := _) rfl (fun K hK => ?_) AllReadyH.nil
        have HA5 : Hid (Below V3.heap.size V3 (StoP X3 (V3.heap.size) (C L) (T L))) := hid (StoP.below HA4.out (by omega))
        have k3 := StoP.same (x := (C L)) (y := (T L)) k2
        have k4 := StoP.other (x := (C L)) (y := (T L)) (p := V3.heap.size) (q := V3.heap.size + 1) (by omega) k1
        unfold StoP at HA5 k3 k4
        go_simp
        go_wp2_with fail
        refine hK.out _ _ (HCC.out _ HA5) (fun hHeld4 => ?_)
        clear hK K
        try simp only [Act.put, List.setIfInBounds_toArray, List.set_cons_zero, List.set_cons_succ]
        refine wpAnyH_done (by kernel_rfl) ?_ _
        exact HR.out _ _ ⟨V3.heap.size + 1, V3.heap.size, rfl, ⟨k4, k3⟩, HA5⟩
    · rintro a9 U ⟨p, q, rfl, ⟨hp1, hq1⟩, HU9⟩
      simp only [Act.put, List.setIfInBounds_toArray, List.set_cons_zero, List.set_cons_succ]
      have HBU := hid (HB3.out.trans (HU9.out.mono HB3.out.size))
      have HKP : Hid (∀ W, Hid (Below U.heap.size U W) → (W.cell? ⟨p, 0, none⟩ = some (.int .i64 (C 0)) ∧ W.cell? ⟨p, 1, none⟩ = some (.int .i64 (T 0))) ∧ W.cell? ⟨q, 0, none⟩ = some (.int .i64 (C L)) ∧ W.cell? ⟨q, 1, none⟩ = some (.int .i64 (T L))) := fun W h => by
        have t1 := pcells_of ((h.out.block _ (Array.getElem?_eq_some_iff.1 hp1).1).trans hp1)
        have t2 := pcells_of ((h.out.block _ (Array.getElem?_eq_some_iff.1 hq1).1).trans hq1)
        exact ⟨⟨t1.1, t1.2.1⟩, t2.1, t2.2.1⟩
      generalize C 0 = x0 at *
      generalize T 0 = y0 at *
      generalize C L = xL at *
      generalize T L = yL at *
      obtain ⟨⟨p0, p1⟩, q0, q1'⟩ := HKP.out U (Below.refl _ _)
      obtain ⟨⟨z0, z1, z2, zf⟩, _, _⟩ := HK7.out U HU9.out
      clear hp1 hq1
      have HU0 : Hid (Below U.heap.size U U) := Below.refl _ _
      have HV0 := HU9
      go_wp2_with fail
      refine (HT1.out _).mono ?_
      rintro e wv1 ⟨rfl, hb⟩
      have HC1 := hid (HBU.out.trans (hb.mono HBU.out.size))
      have HUX := hid (HU0.out.trans (hb.mono HU0.out.size))
      have HVX := hid (HV0.out.trans (hb.mono HV0.out.size))
      obtain ⟨⟨p0, p1⟩, q0, q1'⟩ := HKP.out wv1 HUX
      obtain ⟨⟨z0, z1, z2, zf⟩, _, _⟩ := HK7.out wv1 HVX.out
      clear hb
      obtain ⟨⟨c0, c1, c2⟩, _⟩ := HK.out wv1 HC1.out
      go_wp2_with fail
      refine (HT2.out _).mono ?_
      rintro e wv2 ⟨rfl, hb⟩
      have HC2 := hid (HC1.out.trans (hb.mono HC1.out.size))
      have HUY := hid (HUX.out.trans (hb.mono HUX.out.size))
      have HVY := hid (HVX.out.trans (hb.mono HVX.out.size))
      obtain ⟨⟨p0, p1⟩, q0, q1'⟩ := HKP.out wv2 HUY
      obtain ⟨⟨z0, z1, z2, zf⟩, _, _⟩ := HK7.out wv2 HVY.out
      clear hb
      obtain ⟨⟨c0, c1, c2⟩, _⟩ := HK.out wv2 HC2.out
      go_wp2_with fail
      refine (HCH.out _).mono ?_
      rintro e wv3 ⟨rfl, hb⟩
      have HC3 := hid (HC2.out.trans (hb.mono HC2.out.size))
      clear hb
      obtain ⟨⟨c0, c1, c2⟩, _⟩ := HK.out wv3 HC3.out
      by_cases hc : ckB o n d = true
      · have hce : ckE o n d = 0 := by unfold ckE; rw [if_pos hc]
        rw [hce]
        by_cases hm1 : m < 2
        · have hm1I : (m : Int) < 2 := by omega
          go_wp2_with fail
          refine (HA.out _).mono ?_
          rintro e wv4 ⟨rfl, hb⟩
          have HC4 := hid (HC3.out.trans (hb.mono HC3.out.size))
          clear hb
          obtain ⟨⟨c0, c1, c2⟩, _⟩ := HK.out wv4 HC4.out
          go_wp2
          go_ret
          exact ⟨rfl, (HK.out _ HC4.out).2⟩
        · have hm1I : ¬ (m : Int) < 2 := by omega
          by_cases hm2 : 1024 < m
          · have hm2I : (1024 : Int) < (m : Int) := by omega
            go_wp2_with fail
            refine (HA.out _).mono ?_
            rintro e wv5 ⟨rfl, hb⟩
            have HC5 := hid (HC3.out.trans (hb.mono HC3.out.size))
            clear hb
            obtain ⟨⟨c0, c1, c2⟩, _⟩ := HK.out wv5 HC5.out
            go_wp2
            go_ret
            exact ⟨rfl, (HK.out _ HC5.out).2⟩
          · have hm2I : ¬ (1024 : Int) < (m : Int) := by omega
            go_wp2_with fail
            refine (HA.out _).mono ?_
            rintro e wv6 ⟨rfl, hb⟩
            have HC6 := hid (HC3.out.trans (hb.mono HC3.out.size))
            clear hb
            obtain ⟨⟨c0, c1, c2⟩, _⟩ := HK.out wv6 HC6.out
            have HHC := hid hc
            obtain ⟨_, ⟨n1, n2⟩, d1, d2⟩ := ckB_yes hc
            have HND : Hid ((1 ≤ n ∧ n ≤ 1000000000) ∧ (1 ≤ d ∧ d ≤ 1000000000)) := hid ⟨⟨n1, n2⟩, d1, d2⟩
            clear hc hce n1 n2 d1 d2
            go_wp2
            go_loopw [16, 17, 99] (fun mv nv iv wr => ∃ (k : Nat) (A : Int), k ≤ m ∧ iv = .int .i64 k ∧ nv = .int .i64 A ∧ Hid (A = sumK xs k * d) ∧ Hid (OwnP wr wv6.heap.size mv k (mkC d xs) (mkT o n xs)) ∧ Hid (∀ i, i < k → inB (mkC d xs i) = true ∧ inB (mkT o n xs i) = true) ∧ Hid (Below wv6.heap.size wv6 wr)) (fun _ _ iv _ => m - (intOf iv).toNat)
            case atStart => exact ⟨0, 0, Nat.zero_le _, rfl, rfl, by show (0 : Int) = 0 * d; omega, World.ownsRow_nil _ _ _ _, fun i hi => absurd hi (Nat.not_lt_zero _), Below.refl _ _⟩
            case round =>
              obtain ⟨k, A, hk, rfl, rfl, HA0, HO, HIN, HBL⟩ := hrel
              have HBW := hid (HC6.out.trans (HBL.out.mono HC6.out.size))
              obtain ⟨⟨c0, c1, c2⟩, hbw⟩ := HK.out wr HBW.out
              by_cases hlt : k < m
              · obtain ⟨b, off, rfl, hbl, hcl⟩ := HU.out.2.2 (by omega)
                have hck : wr.cell? ⟨b, off + k, none⟩ = some (.int .i64 (xs.getD k 0)) := by rw [hbw.cell (p := ⟨b, off + k, none⟩) hbl]; exact hcl k hlt
                obtain ⟨s5, wB, wA⟩ := mk_wraps xs d k (by omega) HND.out.2.1 HND.out.2.2
                have HMT := hid (mk_time o n d xs k)
                have HTM := hid (fun W => mk_times o n d xs k (by omega) HND.out.2.1 HND.out.2.2 W)
                rw [← HA0.out] at s5
                obtain ⟨x, hx⟩ : ∃ t, xs.getD k 0 = t := ⟨_, rfl⟩
                rw [hx] at hck s5 wB
                obtain ⟨y, hy⟩ : ∃ t, clK x = t := ⟨_, rfl⟩
                have HCL := hid (clK_is x y hy)
                rw [hy] at s5 wB
                obtain ⟨B, hB⟩ : ∃ t, y * d = t := ⟨_, rfl⟩
                rw [hB] at s5 wB
                obtain ⟨A2, hA2⟩ : ∃ t, sumK xs (k + 1) * d = t := ⟨_, rfl⟩
                rw [hA2] at s5 wA HMT HTM
                have HA2 := hid hA2.symm
                obtain ⟨E2, hE2⟩ : ∃ t, tmE o n d A2 = t := ⟨_, rfl⟩
                obtain ⟨V2, hV2⟩ : ∃ t, tmV o n d A2 = t := ⟨_, rfl⟩
                rw [hE2, hV2] at HTM
                rw [hE2, hV2] at HMT
                have hkI : (k : Int) < (m : Int) := by omega
                have HMC : Hid (mkC d xs k = A2) := hid hA2
                clear hx hy hA2 hE2 hV2 hcl
                by_cases h1 : x < 1
                · obtain rfl : y = 1 := HCL.out.1 h1
                  go_wp2_with fail
                  refine (HTM.out _).mono ?_
                  rintro e wv7 ⟨rfl, hb⟩
                  have HC7 := hid (HBW.out.trans (hb.mono HBW.out.size))
                  have HBT := hid (HBL.out.trans (hb.mono HBL.out.size))
                  have HOT := hid (HO.out.keepB hb)
                  clear hb
                  obtain ⟨⟨c0, c1, c2⟩, _⟩ := HK.out wv7 HC7.out
                  by_cases he2 : E2 = 0
                  · obtain ⟨e1, e2, e3⟩ := HMT.out he2
                    subst he2
                    have HIN2 : Hid (∀ i, i < k + 1 → inB (mkC d xs i) = true ∧ inB (mkT o n xs i) = true) := hid (fun i hi => by
                      by_cases hik : i = k
                      · subst hik
                        exact ⟨e2, e3⟩
                      · exact HIN.out i (by omega))
                    have HVT : Hid (V2 = mkT o n xs k) := hid e1
                    clear e1 e2 e3
                    have hown := HOT.out
                    unfold OwnP at hown
                    have hbs := HBT.out.size
                    obtain ⟨i0, hi, hz0, hz1, hz2⟩ := info_pp
                    go_wp2_with (first
                      | (at_builtin; (refine wpList_append_own _ rfl _ _ 29 rfl wv6.heap.size 36 i0 (.agg #[.int .i64 0, .int .i64 0]) 2 16 Try.underlying29 hi hz0 hz1 hz2 rfl (by decide) _ _ _ rfl (hown.alloc _) ⟨wv7.heap.size, 0, none⟩ 1 1 [.int .i64 A2, .int .i64 V2] rfl rfl ?c1 ?c2 ?c3 ?c4 ?c5 ?_))
                      | fail)
                    case c1 =>
                      intro j u hj
                      match j, hj with
                      | 0, hj => simp at hj; subst hj; simp [Addr.add]
                      | 1, hj => simp at hj; subst hj; simp [Addr.add]
                    case c2 =>
                      intro u hu
                      simp at hu
                      rcases hu with hu | hu <;> (rw [hu]; rfl)
                    case c3 => unfold maxLen; omega
                    case c4 => omega
                    case c5 => simp; omega
                    intro mv' w9 hown' hgrow _
                    have HO2 : Hid (OwnP w9 wv6.heap.size mv' (k + 1) (mkC d xs) (mkT o n xs)) := hid (OwnP.more (by rw [HMC.out, ← HVT.out]; exact hown'))
                    have HB9 : Hid (Below wv6.heap.size wv6 w9) := hid ((HBT.out.alloc hbs _).grown hgrow (by simp; omega) (fun g hg => (World.ownsRow.lt hown g hg).1))
                    clear hown' hgrow hown hck
                    go_wp2
                    go_roundw
                    case rel => exact ⟨k + 1, A2, by omega, by go_num, rfl, HA2, HO2, HIN2, HB9⟩
                    case measure => simp [intOf]; omega
                  · have he3 : (E2 == 0) = false := by simpa using he2
                    go_wp2
                    go_ret
                    exact ⟨rfl, (HK.out _ HC7.out).2⟩
                · by_cases h2 : 1000 < x
                  · obtain rfl : y = 1 := HCL.out.2.1 h2
                    go_wp2_with fail
                    refine (HTM.out _).mono ?_
                    rintro e wv8 ⟨rfl, hb⟩
                    have HC8 := hid (HBW.out.trans (hb.mono HBW.out.size))
                    have HBT := hid (HBL.out.trans (hb.mono HBL.out.size))
                    have HOT := hid (HO.out.keepB hb)
                    clear hb
                    obtain ⟨⟨c0, c1, c2⟩, _⟩ := HK.out wv8 HC8.out
                    by_cases he2 : E2 = 0
                    · obtain ⟨e1, e2, e3⟩ := HMT.out he2
                      subst he2
                      have HIN2 : Hid (∀ i, i < k + 1 → inB (mkC d xs i) = true ∧ inB (mkT o n xs i) = true) := hid (fun i hi => by
                        by_cases hik : i = k
                        · subst hik
                          exact ⟨e2, e3⟩
                        · exact HIN.out i (by omega))
                      have HVT : Hid (V2 = mkT o n xs k) := hid e1
                      clear e1 e2 e3
                      have hown := HOT.out
                      unfold OwnP at hown
                      have hbs := HBT.out.size
                      obtain ⟨i0, hi, hz0, hz1, hz2⟩ := info_pp
                      go_wp2_with (first
                        | (at_builtin; (refine wpList_append_own _ rfl _ _ 29 rfl wv6.heap.size 36 i0 (.agg #[.int .i64 0, .int .i64 0]) 2 16 Try.underlying29 hi hz0 hz1 hz2 rfl (by decide) _ _ _ rfl (hown.alloc _) ⟨wv8.heap.size, 0, none⟩ 1 1 [.int .i64 A2, .int .i64 V2] rfl rfl ?c1 ?c2 ?c3 ?c4 ?c5 ?_))
                        | fail)
                      case c1 =>
                        intro j u hj
                        match j, hj with
                        | 0, hj => simp at hj; subst hj; simp [Addr.add]
                        | 1, hj => simp at hj; subst hj; simp [Addr.add]
                      case c2 =>
                        intro u hu
                        simp at hu
                        rcases hu with hu | hu <;> (rw [hu]; rfl)
                      case c3 => unfold maxLen; omega
                      case c4 => omega
                      case c5 => simp; omega
                      intro mv' w9 hown' hgrow _
                      have HO2 : Hid (OwnP w9 wv6.heap.size mv' (k + 1) (mkC d xs) (mkT o n xs)) := hid (OwnP.more (by rw [HMC.out, ← HVT.out]; exact hown'))
                      have HB9 : Hid (Below wv6.heap.size wv6 w9) := hid ((HBT.out.alloc hbs _).grown hgrow (by simp; omega) (fun g hg => (World.ownsRow.lt hown g hg).1))
                      clear hown' hgrow hown hck
                      go_wp2
                      go_roundw
                      case rel => exact ⟨k + 1, A2, by omega, by go_num, rfl, HA2, HO2, HIN2, HB9⟩
                      case measure => simp [intOf]; omega
                    · have he3 : (E2 == 0) = false := by simpa using he2
                      go_wp2
                      go_ret
                      exact ⟨rfl, (HK.out _ HC8.out).2⟩
                  · obtain rfl : y = x := HCL.out.2.2 h1 h2
                    go_wp2_with fail
                    refine (HTM.out _).mono ?_
                    rintro e wv9 ⟨rfl, hb⟩
                    have HC9 := hid (HBW.out.trans (hb.mono HBW.out.size))
                    have HBT := hid (HBL.out.trans (hb.mono HBL.out.size))
                    have HOT := hid (HO.out.keepB hb)
                    clear hb
                    obtain ⟨⟨c0, c1, c2⟩, _⟩ := HK.out wv9 HC9.out
                    by_cases he2 : E2 = 0
                    · obtain ⟨e1, e2, e3⟩ := HMT.out he2
                      subst he2
                      have HIN2 : Hid (∀ i, i < k + 1 → inB (mkC d xs i) = true ∧ inB (mkT o n xs i) = true) := hid (fun i hi => by
                        by_cases hik : i = k
                        · subst hik
                          exact ⟨e2, e3⟩
                        · exact HIN.out i (by omega))
                      have HVT : Hid (V2 = mkT o n xs k) := hid e1
                      clear e1 e2 e3
                      have hown := HOT.out
                      unfold OwnP at hown
                      have hbs := HBT.out.size
                      obtain ⟨i0, hi, hz0, hz1, hz2⟩ := info_pp
                      go_wp2_with (first
                        | (at_builtin; (refine wpList_append_own _ rfl _ _ 29 rfl wv6.heap.size 36 i0 (.agg #[.int .i64 0, .int .i64 0]) 2 16 Try.underlying29 hi hz0 hz1 hz2 rfl (by decide) _ _ _ rfl (hown.alloc _) ⟨wv9.heap.size, 0, none⟩ 1 1 [.int .i64 A2, .int .i64 V2] rfl rfl ?c1 ?c2 ?c3 ?c4 ?c5 ?_))
                        | fail)
                      case c1 =>
                        intro j u hj
                        match j, hj with
                        | 0, hj => simp at hj; subst hj; simp [Addr.add]
                        | 1, hj => simp at hj; subst hj; simp [Addr.add]
                      case c2 =>
                        intro u hu
                        simp at hu
                        rcases hu with hu | hu <;> (rw [hu]; rfl)
                      case c3 => unfold maxLen; omega
                      case c4 => omega
                      case c5 => simp; omega
                      intro mv' w9 hown' hgrow _
                      have HO2 : Hid (OwnP w9 wv6.heap.size mv' (k + 1) (mkC d xs) (mkT o n xs)) := hid (OwnP.more (by rw [HMC.out, ← HVT.out]; exact hown'))
                      have HB9 : Hid (Below wv6.heap.size wv6 w9) := hid ((HBT.out.alloc hbs _).grown hgrow (by simp; omega) (fun g hg => (World.ownsRow.lt hown g hg).1))
                      clear hown' hgrow hown hck
                      go_wp2
                      go_roundw
                      case rel => exact ⟨k + 1, A2, by omega, by go_num, rfl, HA2, HO2, HIN2, HB9⟩
                      case measure => simp [intOf]; omega
                    · have he3 : (E2 == 0) = false := by simpa using he2
                      go_wp2
                      go_ret
                      exact ⟨rfl, (HK.out _ HC9.out).2⟩
              · have hkm : k = m := by omega
                subst hkm
                have HM2 : Hid (2 ≤ k ∧ k ≤ 1024) := hid (by omega)
                obtain ⟨ma, mcap, rfl, hpr⟩ := OwnP.at HO.out (fun i hi => by have := HIN.out i hi; rw [inB_iff, inB_iff] at this; omega)
                go_wp2_with fail
                refine (Fit_any ma k mcap (mkC d xs) (mkT o n xs) wr hpr (by omega)).mono ?_
                rintro e wv10 ⟨⟨O2, P2, Q2, v9, E9, rfl, hF1, hF2⟩, hb⟩
                have HC10 := hid (HBW.out.trans (hb.mono HBW.out.size))
                clear hb
                obtain ⟨e1, e2, e7, e9⟩ := mk_end HHC.out HM2.out HIN.out hF1 hF2
                subst e1 e2
                clear hF1 hF2 hpr
                obtain ⟨Z, hZ⟩ : ∃ t, n * Q2 = t := ⟨_, rfl⟩
                rw [hZ] at e7 e9
                have HK9 := hid (fun W => @ckbox2 wv10 W O2 P2 Q2)
                obtain ⟨V9, hV9⟩ : ∃ V, Hid (wv10.alloc (CBox O2 P2 Q2) = V) := ⟨_, rfl⟩
                rw [hV9.out] at HK9
                obtain ⟨⟨y0, y1, y2, yf⟩, ys, yb⟩ := HK9.out V9 (Below.refl _ _)
                have HB9 := hid (HC10.out.trans (yb.mono HC10.out.size))
                obtain ⟨⟨c0, c1, c2⟩, _⟩ := HK.out V9 HB9.out
                unfold CBox at hV9
                have hV9' := hV9.out
                clear yb
                go_wp2
                go_ret
                exact ⟨rfl, (HK.out _ HB9.out).2⟩
      · have hce : ckE o n d = 130 := by unfold ckE; rw [if_neg hc]
        rw [hce]
        go_wp2_with fail
        refine (HA.out _).mono ?_
        rintro e wv11 ⟨rfl, hb⟩
        have HC11 := hid (HC3.out.trans (hb.mono HC3.out.size))
        clear hb
        obtain ⟨⟨c0, c1, c2⟩, _⟩ := HK.out wv11 HC11.out
        go_wp2
        go_ret
        exact ⟨rfl, (HK.out _ HC11.out).2⟩
  · have hE3 : (E == 0) = false := by simpa using hE
    go_wp2_with fail
    refine (HCH.out _).mono ?_
    rintro e wv12 ⟨rfl, hb⟩
    have HC12 := hid (HB3.out.trans (hb.mono HB3.out.size))
    clear hb
    obtain ⟨⟨c0, c1, c2⟩, _⟩ := HK.out wv12 HC12.out
    by_cases hc : ckB o n d = true
    · have hce : ckE o n d = 0 := by unfold ckE; rw [if_pos hc]
      rw [hce]
      by_cases hm1 : m < 2
      · have hm1I : (m : Int) < 2 := by omega
        go_wp2_with fail
        refine (HA.out _).mono ?_
        rintro e wv13 ⟨rfl, hb⟩
        have HC13 := hid (HC12.out.trans (hb.mono HC12.out.size))
        clear hb
        obtain ⟨⟨c0, c1, c2⟩, _⟩ := HK.out wv13 HC13.out
        go_wp2
        go_ret
        exact ⟨rfl, (HK.out _ HC13.out).2⟩
      · have hm1I : ¬ (m : Int) < 2 := by omega
        by_cases hm2 : 1024 < m
        · have hm2I : (1024 : Int) < (m : Int) := by omega
          go_wp2_with fail
          refine (HA.out _).mono ?_
          rintro e wv14 ⟨rfl, hb⟩
          have HC14 := hid (HC12.out.trans (hb.mono HC12.out.size))
          clear hb
          obtain ⟨⟨c0, c1, c2⟩, _⟩ := HK.out wv14 HC14.out
          go_wp2
          go_ret
          exact ⟨rfl, (HK.out _ HC14.out).2⟩
        · have hm2I : ¬ (1024 : Int) < (m : Int) := by omega
          go_wp2_with fail
          refine (HA.out _).mono ?_
          rintro e wv15 ⟨rfl, hb⟩
          have HC15 := hid (HC12.out.trans (hb.mono HC12.out.size))
          clear hb
          obtain ⟨⟨c0, c1, c2⟩, _⟩ := HK.out wv15 HC15.out
          have HHC := hid hc
          obtain ⟨_, ⟨n1, n2⟩, d1, d2⟩ := ckB_yes hc
          have HND : Hid ((1 ≤ n ∧ n ≤ 1000000000) ∧ (1 ≤ d ∧ d ≤ 1000000000)) := hid ⟨⟨n1, n2⟩, d1, d2⟩
          clear hc hce n1 n2 d1 d2
          go_wp2
          go_loopw [16, 17, 99] (fun mv nv iv wr => ∃ (k : Nat) (A : Int), k ≤ m ∧ iv = .int .i64 k ∧ nv = .int .i64 A ∧ Hid (A = sumK xs k * d) ∧ Hid (OwnP wr wv15.heap.size mv k (mkC d xs) (mkT o n xs)) ∧ Hid (∀ i, i < k → inB (mkC d xs i) = true ∧ inB (mkT o n xs i) = true) ∧ Hid (Below wv15.heap.size wv15 wr)) (fun _ _ iv _ => m - (intOf iv).toNat)
          case atStart => exact ⟨0, 0, Nat.zero_le _, rfl, rfl, by show (0 : Int) = 0 * d; omega, World.ownsRow_nil _ _ _ _, fun i hi => absurd hi (Nat.not_lt_zero _), Below.refl _ _⟩
          case round =>
            obtain ⟨k, A, hk, rfl, rfl, HA0, HO, HIN, HBL⟩ := hrel
            have HBW := hid (HC15.out.trans (HBL.out.mono HC15.out.size))
            obtain ⟨⟨c0, c1, c2⟩, hbw⟩ := HK.out wr HBW.out
            by_cases hlt : k < m
            · obtain ⟨b, off, rfl, hbl, hcl⟩ := HU.out.2.2 (by omega)
              have hck : wr.cell? ⟨b, off + k, none⟩ = some (.int .i64 (xs.getD k 0)) := by rw [hbw.cell (p := ⟨b, off + k, none⟩) hbl]; exact hcl k hlt
              obtain ⟨s5, wB, wA⟩ := mk_wraps xs d k (by omega) HND.out.2.1 HND.out.2.2
              have HMT := hid (mk_time o n d xs k)
              have HTM := hid (fun W => mk_times o n d xs k (by omega) HND.out.2.1 HND.out.2.2 W)
              rw [← HA0.out] at s5
              obtain ⟨x, hx⟩ : ∃ t, xs.getD k 0 = t := ⟨_, rfl⟩
              rw [hx] at hck s5 wB
              obtain ⟨y, hy⟩ : ∃ t, clK x = t := ⟨_, rfl⟩
              have HCL := hid (clK_is x y hy)
              rw [hy] at s5 wB
              obtain ⟨B, hB⟩ : ∃ t, y * d = t := ⟨_, rfl⟩
              rw [hB] at s5 wB
              obtain ⟨A2, hA2⟩ : ∃ t, sumK xs (k + 1) * d = t := ⟨_, rfl⟩
              rw [hA2] at s5 wA HMT HTM
              have HA2 := hid hA2.symm
              obtain ⟨E2, hE2⟩ : ∃ t, tmE o n d A2 = t := ⟨_, rfl⟩
              obtain ⟨V2, hV2⟩ : ∃ t, tmV o n d A2 = t := ⟨_, rfl⟩
              rw [hE2, hV2] at HTM
              rw [hE2, hV2] at HMT
              have hkI : (k : Int) < (m : Int) := by omega
              have HMC : Hid (mkC d xs k = A2) := hid hA2
              clear hx hy hA2 hE2 hV2 hcl
              by_cases h1 : x < 1
              · obtain rfl : y = 1 := HCL.out.1 h1
                go_wp2_with fail
                refine (HTM.out _).mono ?_
                rintro e wv16 ⟨rfl, hb⟩
                have HC16 := hid (HBW.out.trans (hb.mono HBW.out.size))
                have HBT := hid (HBL.out.trans (hb.mono HBL.out.size))
                have HOT := hid (HO.out.keepB hb)
                clear hb
                obtain ⟨⟨c0, c1, c2⟩, _⟩ := HK.out wv16 HC16.out
                by_cases he2 : E2 = 0
                · obtain ⟨e1, e2, e3⟩ := HMT.out he2
                  subst he2
                  have HIN2 : Hid (∀ i, i < k + 1 → inB (mkC d xs i) = true ∧ inB (mkT o n xs i) = true) := hid (fun i hi => by
                    by_cases hik : i = k
                    · subst hik
                      exact ⟨e2, e3⟩
                    · exact HIN.out i (by omega))
                  have HVT : Hid (V2 = mkT o n xs k) := hid e1
                  clear e1 e2 e3
                  have hown := HOT.out
                  unfold OwnP at hown
                  have hbs := HBT.out.size
                  obtain ⟨i0, hi, hz0, hz1, hz2⟩ := info_pp
                  go_wp2_with (first
                    | (at_builtin; (refine wpList_append_own _ rfl _ _ 29 rfl wv15.heap.size 36 i0 (.agg #[.int .i64 0, .int .i64 0]) 2 16 Try.underlying29 hi hz0 hz1 hz2 rfl (by decide) _ _ _ rfl (hown.alloc _) ⟨wv16.heap.size, 0, none⟩ 1 1 [.int .i64 A2, .int .i64 V2] rfl rfl ?c1 ?c2 ?c3 ?c4 ?c5 ?_))
                    | fail)
                  case c1 =>
                    intro j u hj
                    match j, hj with
                    | 0, hj => simp at hj; subst hj; simp [Addr.add]
                    | 1, hj => simp at hj; subst hj; simp [Addr.add]
                  case c2 =>
                    intro u hu
                    simp at hu
                    rcases hu with hu | hu <;> (rw [hu]; rfl)
                  case c3 => unfold maxLen; omega
                  case c4 => omega
                  case c5 => simp; omega
                  intro mv' w9 hown' hgrow _
                  have HO2 : Hid (OwnP w9 wv15.heap.size mv' (k + 1) (mkC d xs) (mkT o n xs)) := hid (OwnP.more (by rw [HMC.out, ← HVT.out]; exact hown'))
                  have HB9 : Hid (Below wv15.heap.size wv15 w9) := hid ((HBT.out.alloc hbs _).grown hgrow (by simp; omega) (fun g hg => (World.ownsRow.lt hown g hg).1))
                  clear hown' hgrow hown hck
                  go_wp2
                  go_roundw
                  case rel => exact ⟨k + 1, A2, by omega, by go_num, rfl, HA2, HO2, HIN2, HB9⟩
                  case measure => simp [intOf]; omega
                · have he3 : (E2 == 0) = false := by simpa using he2
                  go_wp2
                  go_ret
                  exact ⟨rfl, (HK.out _ HC16.out).2⟩
              · by_cases h2 : 1000 < x
                · obtain rfl : y = 1 := HCL.out.2.1 h2
                  go_wp2_with fail
                  refine (HTM.out _).mono ?_
                  rintro e wv17 ⟨rfl, hb⟩
                  have HC17 := hid (HBW.out.trans (hb.mono HBW.out.size))
                  have HBT := hid (HBL.out.trans (hb.mono HBL.out.size))
                  have HOT := hid (HO.out.keepB hb)
                  clear hb
                  obtain ⟨⟨c0, c1, c2⟩, _⟩ := HK.out wv17 HC17.out
                  by_cases he2 : E2 = 0
                  · obtain ⟨e1, e2, e3⟩ := HMT.out he2
                    subst he2
                    have HIN2 : Hid (∀ i, i < k + 1 → inB (mkC d xs i) = true ∧ inB (mkT o n xs i) = true) := hid (fun i hi => by
                      by_cases hik : i = k
                      · subst hik
                        exact ⟨e2, e3⟩
                      · exact HIN.out i (by omega))
                    have HVT : Hid (V2 = mkT o n xs k) := hid e1
                    clear e1 e2 e3
                    have hown := HOT.out
                    unfold OwnP at hown
                    have hbs := HBT.out.size
                    obtain ⟨i0, hi, hz0, hz1, hz2⟩ := info_pp
                    go_wp2_with (first
                      | (at_builtin; (refine wpList_append_own _ rfl _ _ 29 rfl wv15.heap.size 36 i0 (.agg #[.int .i64 0, .int .i64 0]) 2 16 Try.underlying29 hi hz0 hz1 hz2 rfl (by decide) _ _ _ rfl (hown.alloc _) ⟨wv17.heap.size, 0, none⟩ 1 1 [.int .i64 A2, .int .i64 V2] rfl rfl ?c1 ?c2 ?c3 ?c4 ?c5 ?_))
                      | fail)
                    case c1 =>
                      intro j u hj
                      match j, hj with
                      | 0, hj => simp at hj; subst hj; simp [Addr.add]
                      | 1, hj => simp at hj; subst hj; simp [Addr.add]
                    case c2 =>
                      intro u hu
                      simp at hu
                      rcases hu with hu | hu <;> (rw [hu]; rfl)
                    case c3 => unfold maxLen; omega
                    case c4 => omega
                    case c5 => simp; omega
                    intro mv' w9 hown' hgrow _
                    have HO2 : Hid (OwnP w9 wv15.heap.size mv' (k + 1) (mkC d xs) (mkT o n xs)) := hid (OwnP.more (by rw [HMC.out, ← HVT.out]; exact hown'))
                    have HB9 : Hid (Below wv15.heap.size wv15 w9) := hid ((HBT.out.alloc hbs _).grown hgrow (by simp; omega) (fun g hg => (World.ownsRow.lt hown g hg).1))
                    clear hown' hgrow hown hck
                    go_wp2
                    go_roundw
                    case rel => exact ⟨k + 1, A2, by omega, by go_num, rfl, HA2, HO2, HIN2, HB9⟩
                    case measure => simp [intOf]; omega
                  · have he3 : (E2 == 0) = false := by simpa using he2
                    go_wp2
                    go_ret
                    exact ⟨rfl, (HK.out _ HC17.out).2⟩
                · obtain rfl : y = x := HCL.out.2.2 h1 h2
                  go_wp2_with fail
                  refine (HTM.out _).mono ?_
                  rintro e wv18 ⟨rfl, hb⟩
                  have HC18 := hid (HBW.out.trans (hb.mono HBW.out.size))
                  have HBT := hid (HBL.out.trans (hb.mono HBL.out.size))
                  have HOT := hid (HO.out.keepB hb)
                  clear hb
                  obtain ⟨⟨c0, c1, c2⟩, _⟩ := HK.out wv18 HC18.out
                  by_cases he2 : E2 = 0
                  · obtain ⟨e1, e2, e3⟩ := HMT.out he2
                    subst he2
                    have HIN2 : Hid (∀ i, i < k + 1 → inB (mkC d xs i) = true ∧ inB (mkT o n xs i) = true) := hid (fun i hi => by
                      by_cases hik : i = k
                      · subst hik
                        exact ⟨e2, e3⟩
                      · exact HIN.out i (by omega))
                    have HVT : Hid (V2 = mkT o n xs k) := hid e1
                    clear e1 e2 e3
                    have hown := HOT.out
                    unfold OwnP at hown
                    have hbs := HBT.out.size
                    obtain ⟨i0, hi, hz0, hz1, hz2⟩ := info_pp
                    go_wp2_with (first
                      | (at_builtin; (refine wpList_append_own _ rfl _ _ 29 rfl wv15.heap.size 36 i0 (.agg #[.int .i64 0, .int .i64 0]) 2 16 Try.underlying29 hi hz0 hz1 hz2 rfl (by decide) _ _ _ rfl (hown.alloc _) ⟨wv18.heap.size, 0, none⟩ 1 1 [.int .i64 A2, .int .i64 V2] rfl rfl ?c1 ?c2 ?c3 ?c4 ?c5 ?_))
                      | fail)
                    case c1 =>
                      intro j u hj
                      match j, hj with
                      | 0, hj => simp at hj; subst hj; simp [Addr.add]
                      | 1, hj => simp at hj; subst hj; simp [Addr.add]
                    case c2 =>
                      intro u hu
                      simp at hu
                      rcases hu with hu | hu <;> (rw [hu]; rfl)
                    case c3 => unfold maxLen; omega
                    case c4 => omega
                    case c5 => simp; omega
                    intro mv' w9 hown' hgrow _
                    have HO2 : Hid (OwnP w9 wv15.heap.size mv' (k + 1) (mkC d xs) (mkT o n xs)) := hid (OwnP.more (by rw [HMC.out, ← HVT.out]; exact hown'))
                    have HB9 : Hid (Below wv15.heap.size wv15 w9) := hid ((HBT.out.alloc hbs _).grown hgrow (by simp; omega) (fun g hg => (World.ownsRow.lt hown g hg).1))
                    clear hown' hgrow hown hck
                    go_wp2
                    go_roundw
                    case rel => exact ⟨k + 1, A2, by omega, by go_num, rfl, HA2, HO2, HIN2, HB9⟩
                    case measure => simp [intOf]; omega
                  · have he3 : (E2 == 0) = false := by simpa using he2
                    go_wp2
                    go_ret
                    exact ⟨rfl, (HK.out _ HC18.out).2⟩
            · have hkm : k = m := by omega
              subst hkm
              have HM2 : Hid (2 ≤ k ∧ k ≤ 1024) := hid (by omega)
              obtain ⟨ma, mcap, rfl, hpr⟩ := OwnP.at HO.out (fun i hi => by have := HIN.out i hi; rw [inB_iff, inB_iff] at this; omega)
              go_wp2_with fail
              refine (Fit_any ma k mcap (mkC d xs) (mkT o n xs) wr hpr (by omega)).mono ?_
              rintro e wv19 ⟨⟨O2, P2, Q2, v9, E9, rfl, hF1, hF2⟩, hb⟩
              have HC19 := hid (HBW.out.trans (hb.mono HBW.out.size))
              clear hb
              obtain ⟨e1, e2, e7, e9⟩ := mk_end HHC.out HM2.out HIN.out hF1 hF2
              subst e1 e2
              clear hF1 hF2 hpr
              obtain ⟨Z, hZ⟩ : ∃ t, n * Q2 = t := ⟨_, rfl⟩
              rw [hZ] at e7 e9
              have HK9 := hid (fun W => @ckbox2 wv19 W O2 P2 Q2)
              obtain ⟨V9, hV9⟩ : ∃ V, Hid (wv19.alloc (CBox O2 P2 Q2) = V) := ⟨_, rfl⟩
              rw [hV9.out] at HK9
              obtain ⟨⟨y0, y1, y2, yf⟩, ys, yb⟩ := HK9.out V9 (Below.refl _ _)
              have HB9 := hid (HC19.out.trans (yb.mono HC19.out.size))
              obtain ⟨⟨c0, c1, c2⟩, _⟩ := HK.out V9 HB9.out
              unfold CBox at hV9
              have hV9' := hV9.out
              clear yb
              go_wp2
              go_ret
              exact ⟨rfl, (HK.out _ HB9.out).2⟩
    · have hce : ckE o n d = 130 := by unfold ckE; rw [if_neg hc]
      rw [hce]
      go_wp2_with fail
      refine (HA.out _).mono ?_
      rintro e wv20 ⟨rfl, hb⟩
      have HC20 := hid (HC12.out.trans (hb.mono HC12.out.size))
      clear hb
      obtain ⟨⟨c0, c1, c2⟩, _⟩ := HK.out wv20 HC20.out
      go_wp2
      go_ret
      exact ⟨rfl, (HK.out _ HC20.out).2⟩
end Go.Proofs.Ytfdphegiafccpab
