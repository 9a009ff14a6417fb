
/- The document's At, Put, Row, Col; the law's of, told, list, same. -/
import Derived.Test.YtmcanbkfijiicaaP32
namespace Go.Proofs.Ytmcanbkfijiicaa
open Go.RowKit Go.IntWalk

/-- Numbers in memory of one's own. -/
def OwM (W : World) (B : Nat) (ta : Option Addr) (n cap : Nat) (xs : List Nat) : Prop := FlM W ta n cap xs ∧ (n = 0 ∨ ∃ g, ta = some ⟨g, 0, none⟩ ∧ B ≤ g ∧ ∀ k, W.frozen? ⟨g, k, none⟩ = false)
theorem OwM.mono {W : World} {B B' : Nat} {ta : Option Addr} {n cap : Nat} {xs : List Nat} (h : OwM W B ta n cap xs) (hb : B' ≤ B) : OwM W B' ta n cap xs := by
  rcases h.2 with h2 | ⟨g, h1, h2, h3⟩
  · exact ⟨h.1, Or.inl h2⟩
  · exact ⟨h.1, Or.inr ⟨g, h1, Nat.le_trans hb h2, h3⟩⟩
theorem fl_lt {W : World} {g n cap : Nat} {xs : List Nat} (h : FlM W (some ⟨g, 0, none⟩) n cap xs) : g < W.heap.size := by
  rcases h.2.2 with ⟨h1, _⟩ | ⟨b, off, h1, h2, _⟩
  · cases h1
  · simp only [Option.some.injEq, Addr.mk.injEq] at h1
    rw [h1.1]; exact h2
theorem OwM.below {W W' : World} {B : Nat} {ta : Option Addr} {n cap : Nat} {xs : List Nat} (h : OwM W B ta n cap xs) (hb : Below W.heap.size W W') : OwM W' B ta n cap xs := by
  refine ⟨h.1.below hb, ?_⟩
  rcases h.2 with h2 | ⟨g, h1, h2, h3⟩
  · exact Or.inl h2
  · subst h1
    exact Or.inr ⟨g, rfl, h2, fun k => (World.frozen?_of_block (hb.block g (fl_lt h.1))).trans (h3 k)⟩
theorem fl_cell {W : World} {g n cap : Nat} {xs : List Nat} (h : FlM W (some ⟨g, 0, none⟩) n cap xs) (hn : n ≠ 0) : ∃ x, W.cell? ⟨g, 0, none⟩ = some (.float .f64 x) := by
  rcases h.2.2 with ⟨h1, _⟩ | ⟨b, off, h1, _, _, _, h2⟩
  · cases h1
  · simp only [Option.some.injEq, Addr.mk.injEq, and_true] at h1
    obtain ⟨rfl, rfl⟩ := h1
    exact ⟨_, h2 0 (by omega)⟩
theorem fl_ne {W : World} {g n cap b : Nat} {xs : List Nat} {r0 c0 : Int} {s0 : Option Addr} {n0 k0 : Nat} (h : FlM W (some ⟨g, 0, none⟩) n cap xs) (hn : n ≠ 0) (hb : W.heap[b]? = some (MBox r0 c0 s0 n0 k0)) : g ≠ b := fun hc => by
  subst hc
  obtain ⟨x, hx⟩ := fl_cell h hn
  rw [(mcells_of hb).1] at hx
  cases hx
theorem OwM.sto {W : World} {B : Nat} {ta : Option Addr} {n cap : Nat} {xs : List Nat} (h : OwM W B ta n cap xs) {b : Nat} {r c r0 c0 : Int} {s s0 : Option Addr} {m k n0 k0 : Nat} (hb : W.heap[b]? = some (MBox r0 c0 s0 n0 k0)) : OwM (StoM W b r c s m k) B ta n cap xs := by
  refine ⟨sto_fl h.1 hb, ?_⟩
  by_cases hn : n = 0
  · exact Or.inl hn
  rcases h.2 with h2 | ⟨g, h1, h2, h3⟩
  · exact absurd h2 hn
  · subst h1
    exact Or.inr ⟨g, rfl, h2, fun k => (World.frozen?_of_block (StoM.keep (fl_ne h.1 hn hb))).trans (h3 k)⟩
theorem l_own (sa : Option Addr) (sn sc : Nat) (xs : List Nat) (w : World) (hu : U64At w sa sn xs) (hn : sn ≤ 17592186043904) :
    Calls Try.prog 10 #[.slice sa sn sc] w fun r w' => ∃ ta cap, r = .returned (.slice ta sn cap) ∧ OwM w' w.heap.size ta sn cap xs ∧ Below w.heap.size w w' := by
  refine (Of64_any sa sn sc xs w hu hn).mono ?_
  rintro r w' ⟨v, rfl, h1, h2, h3⟩
  by_cases c : xs = []
  · obtain rfl := h2 c
    subst c
    have h0 : sn = 0 := hu.1.symm
    subst h0
    exact ⟨none, 0, rfl, ⟨⟨rfl, fun x hx => (by cases hx), Or.inl ⟨rfl, rfl, rfl⟩⟩, Or.inl rfl⟩, h3⟩
  · rcases h1.2 with ⟨_, e⟩ | ⟨g, cap, cur, rfl, k1, k2, k3, k4, k5, k6⟩
    · exact absurd (List.length_eq_zero_iff.1 e) c
    · rw [hu.1] at k3 ⊢
      refine ⟨_, cap, rfl, ⟨⟨hu.1, hu.2.1, Or.inr ⟨g, 0, rfl, (Array.getElem?_eq_some_iff.1 k2).1, k3, k4, fun j hj => ?_⟩⟩, Or.inr ⟨g, rfl, k1, fun j => frozen_of_row w' g j cur _ k2⟩⟩, h3⟩
      have e1 : (cur.toList.take (xs.length * 1))[j]? = (xs.map (Value.float .f64))[j]? := by rw [k6]
      have hj2 : j < xs.length := by rw [hu.1]; exact hj
      rw [List.getElem?_take, if_pos (by omega), List.getElem?_map, List.getElem?_eq_getElem hj2] at e1
      have e2 : cur[j]? = some (.float .f64 (xs.getD j 0)) := by
        rw [← Array.getElem?_toList, e1, List.getD_eq_getElem?_getD, List.getElem?_eq_getElem hj2]
        rfl
      rw [Nat.zero_add]
      simp [World.cell?, k2, e2]
set_option maxHeartbeats 400000 in
theorem rAt_any (r : Int) (sa : Option Addr) (c n cap i j : Nat) (xs : List Nat) (w : World) (h : FlM w sa n cap xs) (hi : i ≤ 100) (hc : c ≤ 100) (hj : j ≤ 100) (hk : i * c + j < n) : Calls Try.prog 80 #[MV r c sa n cap, .int .i64 i, .int .i64 j] w fun r w' => r = .returned (.float .f64 (xs.getD (i * c + j) 0)) ∧ Below w.heap.size w w' := by
  obtain ⟨b, off, rfl, h1, h2, _⟩ := h.at (by omega)
  have hp : i * c ≤ 10000 := Nat.mul_le_mul hi hc
  have hc0 := h2 _ hk
  have e1 : (i : Int) * (c : Int) = ((i * c : Nat) : Int) := by simp
  obtain ⟨p, hp'⟩ : ∃ p, Hid (i * c = p) := ⟨_, rfl⟩
  rw [hp'.out] at e1 hp hk hc0 ⊢
  have e2 : (p : Int) + (j : Int) = ((p + j : Nat) : Int) := by simp
  obtain ⟨k, hk'⟩ : ∃ k, Hid (p + j = k) := ⟨_, rfl⟩
  have e3 := wrapM p (by omega)
  have e4 := wrapM k (by rw [← hk'.out]; omega)
  rw [hk'.out] at e2 hk hc0 ⊢
  have k0 : (0 : Int) ≤ (k : Int) := by omega
  have k1 : (k : Int) < (n : Int) := by omega
  have hcell : (w.alloc (MBox r c (some ⟨b, off, none⟩) n cap)).cell? ⟨b, off + k, none⟩ = some (.float .f64 (xs.getD k 0)) := by
    rw [((Below.refl w.heap.size w).alloc (Nat.le_refl _) _).cell (p := ⟨b, off + k, none⟩) h1]
    exact hc0
  have HB : Hid (Below w.heap.size w (w.alloc (MBox r c (some ⟨b, off, none⟩) n cap))) := (Below.refl _ _).alloc (Nat.le_refl _) _
  obtain ⟨x, hx⟩ : ∃ x, Hid (xs.getD k 0 = x) := ⟨_, rfl⟩
  rw [hx.out] at hcell ⊢
  unfold MBox at HB hcell
  unfold MV
  clear h h1 h2 hc0 hi hc hj hp
  go_enter Try.func80, Try.ntmps80
  go_wp2_with fail
  go_ret
  exact ⟨rfl, HB.out⟩
theorem rAt_fn (r : Int) (sa : Option Addr) (c n cap i j : Nat) (f : Nat → Nat) (w : World) (h : FnM w sa n cap f) (hi : i ≤ 100) (hc : c ≤ 100) (hj : j ≤ 100) (hk : i * c + j < n) : Calls Try.prog 80 #[.agg #[.int .i64 r, .int .i64 c, .slice sa n cap], .int .i64 i, .int .i64 j] w fun r w' => r = .returned (.float .f64 (f (i * c + j))) ∧ Below w.heap.size w w' := by
  have := rAt_any r sa c n cap i j _ w h.fl hi hc hj hk
  rw [getD_map n f _ hk] at this
  exact this
set_option maxRecDepth 4000 in
set_option maxHeartbeats 1000000 in
/-- Put: the number's cell is written, nothing else. -/
theorem Put_any (r : Int) (g c n cap i j x y : Nat) (w : World) (hcell : w.cell? ⟨g, i * c + j, none⟩ = some (.float .f64 y)) (hfz : w.frozen? ⟨g, i * c + j, none⟩ = false) (hg : g < w.heap.size) (hi : i ≤ 100) (hc : c ≤ 100) (hj : j ≤ 100) (hk : i * c + j < n) : Calls Try.prog 38 #[.agg #[.int .i64 r, .int .i64 c, .slice (some ⟨g, 0, none⟩) n cap], .int .i64 i, .int .i64 j, .float .f64 x] w fun e w' => e = .returned (.tuple #[]) ∧ w' = (w.alloc (MBox r c (some ⟨g, 0, none⟩) n cap)).setCell ⟨g, i * c + j, none⟩ (.float .f64 x) := by
  have hst := fstoreM
  have hal : Below w.heap.size w (w.alloc (MBox r c (some ⟨g, 0, none⟩) n cap)) := (Below.refl _ _).alloc (Nat.le_refl _) _
  have hp : i * c ≤ 10000 := Nat.mul_le_mul hi hc
  have e1 : (i : Int) * (c : Int) = ((i * c : Nat) : Int) := by simp
  have hc2 : (w.alloc (MBox r c (some ⟨g, 0, none⟩) n cap)).cell? ⟨g, i * c + j, none⟩ = some (.float .f64 y) := (World.cell?_of_block (hal.block _ hg)).trans hcell
  have hf2 : (w.alloc (MBox r c (some ⟨g, 0, none⟩) n cap)).frozen? ⟨g, i * c + j, none⟩ = false := (World.frozen?_of_block (hal.block _ hg)).trans hfz
  obtain ⟨x0, x1, x2⟩ := mcells_of (w := w.alloc (MBox r c (some ⟨g, 0, none⟩) n cap)) (b := w.heap.size) (nblkM _ _)
  obtain ⟨V, hV⟩ : ∃ V, Hid (w.alloc (MBox r c (some ⟨g, 0, none⟩) n cap) = V) := ⟨_, rfl⟩
  rw [hV.out] at hc2 hf2 x0 x1 x2 ⊢
  have hV' := hV.out
  unfold MBox at hV'
  obtain ⟨P, hP⟩ : ∃ t, Hid (i * c = t) := ⟨_, rfl⟩
  rw [hP.out] at e1 hp hk hc2 hf2 ⊢
  have e2 : (P : Int) + (j : Int) = ((P + j : Nat) : Int) := by simp
  obtain ⟨k, hk'⟩ : ∃ t, Hid (P + j = t) := ⟨_, rfl⟩
  have e3 := wrapM P (by omega)
  have e4 := wrapM k (by rw [← hk'.out]; omega)
  rw [hk'.out] at e2 hk hc2 hf2 ⊢
  have k0 : (0 : Int) ≤ (k : Int) := by omega
  have k1 : (k : Int) < (n : Int) := by omega
  clear hcell hfz hg hi hc hj hp hal
  go_enter Try.func38, Try.ntmps38
  go_wp2_with fail
  exact bodyPost_end (v := .tuple #[]) (by simp [results, Try.results38, go_sem]) rfl ⟨rfl, rfl⟩
end Go.Proofs.Ytmcanbkfijiicaa

namespace Go.Proofs.Ytmcanbkfijiicaa
open Go.RowKit Go.IntWalk

theorem ownsq_kept {w w' : World} {base : Nat} {v : Value} {xs : List Nat} (h : Owns w base v xs) (hb : Below w.heap.size w w') : Owns w' base v xs := by
  obtain ⟨h1, h2 | ⟨g, cap, cur, e1, e2, e3, e4⟩⟩ := h
  · exact ⟨h1, .inl h2⟩
  · exact ⟨h1, .inr ⟨g, cap, cur, e1, e2, (hb.block g (Array.getElem?_eq_some_iff.1 e3).1).trans e3, e4⟩⟩
set_option maxRecDepth 4000 in
set_option maxHeartbeats 2000000 in
theorem rRow_any (R C p n cap : Nat) (sa : Option Addr) (f : Nat → Nat) (w : World) (h : FnM w sa n cap f) (hR : R ≤ 12) (hC : C ≤ 12) (hn : n = R * C) (hp : p < R) :
    Calls Try.prog 52 #[.agg #[.int .i64 R, .int .i64 C, .slice sa n cap], .int .i64 p] w fun e w' => (∃ s l, e = .returned (.slice s C l) ∧ FnM w' s C l (fun t => f (p * C + t))) ∧ Below w.heap.size w w' := by
  obtain ⟨i0, hi, hz0, hz1, hz2⟩ := info_parts info_f
  have HB0 : Hid (Below w.heap.size w (w.alloc (MBox R C sa n cap))) := (Below.refl _ _).alloc (Nat.le_refl _) _
  have HA0 : Hid ((w.alloc (MBox R C sa n cap)).heap[w.heap.size]? = some (MBox R C sa n cap)) := nblkM _ _
  have HSV : Hid ((w.alloc (MBox R C sa n cap)).heap.size = w.heap.size + 1) := World.size_alloc _ _
  obtain ⟨V, hV⟩ : ∃ V, Hid (w.alloc (MBox R C sa n cap) = V) := ⟨_, rfl⟩
  rw [hV.out] at HB0 HA0 HSV
  have hV' := hV.out
  unfold MBox at hV'
  obtain ⟨mb, hmb⟩ : ∃ t, Hid (w.heap.size = t) := ⟨_, rfl⟩
  rw [hmb.out] at HA0
  have hmb' := hmb.out
  obtain ⟨B, hB⟩ : ∃ t, Hid (V.heap.size = t) := ⟨_, rfl⟩
  have HLT : Hid (mb < B ∧ w.heap.size ≤ B) := by
    have e1 := hmb.out; have e2 := HSV.out; have e3 := hB.out
    show _ ∧ _
    omega
  have HFN := hid (h.below HB0.out)
  have HFL : Hid (∀ t, t < C → p * C + t < n ∧ f (p * C + t) < 18446744073709551616) := fun t ht => by
    have hlt : p * C + t < n := by rw [hn]; exact place_lt hp ht
    exact ⟨hlt, fn_lt h _ hlt⟩
  have HAT : Hid (∀ W t, Below B V W → t < C → Calls Try.prog 80 #[.agg #[.int .i64 R, .int .i64 C, .slice sa n cap], .int .i64 (p : Nat), .int .i64 (t : Nat)] W fun e w' => e = .returned (.float .f64 (f (p * C + t))) ∧ Below W.heap.size W w') := fun W t hW ht => by
    rw [← hB.out] at hW
    exact rAt_fn R sa C n cap _ _ f W (HFN.out.below hW) (by omega) (by omega) (by omega) (HFL.out t ht).1
  have HM : Hid (C ≤ 12) := by show _ ≤ _; omega
  clear h hR hC hn hp
  go_enter Try.func52, Try.ntmps52
  go_wp2_with fail
  go_loopw [5, 6] (fun u jv wr => ∃ k : Nat, k ≤ C ∧ jv = .int .i64 k ∧ Hid (Owns wr B u ((List.range k).map (fun t => f (p * C + t)))) ∧ Hid (Below B V wr) ∧ Hid (∃ s l, u = .slice s k l)) (fun _ jv _ => C - (intOf jv).toNat)
  case atStart => exact ⟨0, Nat.zero_le _, rfl, World.ownsRow_nil _ _ _ _, Below.refl _ _, ⟨none, 0, rfl⟩⟩
  case round =>
    obtain ⟨k, hk, rfl, HO, HBR, HSH⟩ := hrel
    obtain ⟨y0, y1, y2⟩ := mcells_of (w := wr) ((HBR.out.block _ HLT.out.1).trans HA0.out)
    by_cases hlt : k < C
    · have HA1 := hid (HAT.out wr k HBR.out hlt)
      have HRG : Hid ((List.range (k + 1)).map (fun t => f (p * C + t)) = (List.range k).map (fun t => f (p * C + t)) ++ [f (p * C + k)]) := by show _ = _; rw [List.range_succ, List.map_append]; rfl
      obtain ⟨x, hx⟩ : ∃ x, Hid (f (p * C + k) = x) := ⟨_, rfl⟩
      rw [hx.out] at HA1 HRG
      have hkI : (k : Int) < (C : Int) := by omega
      have HLK := hid hlt
      have hm12 := HM.out
      clear hlt
      go_wp2_with fail
      refine HA1.out.mono ?_
      rintro e w1 ⟨rfl, hb1⟩
      have hown := ownsq_kept HO.out hb1
      have HB1 : Hid (Below B V w1) := HBR.out.trans (hb1.mono (by rw [← hB.out]; exact HBR.out.size))
      have hbw : B ≤ w1.heap.size := by rw [← hB.out]; exact HB1.out.size
      unfold Owns at hown
      rw [List.length_map, List.length_range] at hown
      clear hb1
      go_wp2_with (first
        | (at_builtin; (refine wpList_append_own _ rfl _ _ 28 rfl B 33 i0 (.float .f64 0) 1 8 Try.underlying28 hi hz0 hz1 hz2 rfl (by decide) _ _ _ rfl (hown.alloc _) ⟨w1.heap.size, 0, none⟩ 1 1 [.float .f64 x] rfl rfl ?c1 ?c2 ?c3 ?c4 ?c5 ?_)))
      case c1 =>
        intro j u hj
        match j, hj with
        | 0, hj => simp at hj; subst hj; simp [Addr.add]
      case c2 => intro u hu; simp at hu; subst hu; rfl
      case c3 => unfold maxLen; omega
      case c4 => omega
      case c5 => simp; omega
      intro v' w2 hown' hgrow _
      have HSH2 : Hid (∃ s l, v' = .slice s (k + 1) l) := by
        rcases hown'.2 with ⟨_, h0⟩ | ⟨g, l, cur, e1, _⟩
        · omega
        · exact ⟨_, _, e1⟩
      have HO2 : Hid (Owns w2 B v' ((List.range (k + 1)).map (fun t => f (p * C + t)))) := by
        show w2.ownsRow _ _ _ _ _ _
        rw [List.length_map, List.length_range, HRG.out, List.map_append, List.map_map]
        exact hown'
      have HB2 : Hid (Below B V w2) := (HB1.out.alloc hbw _).grown hgrow (by simp; omega) (fun t ht => (World.ownsRow.lt hown t ht).1)
      clear hown' hgrow hown HO HBR
      go_wp2
      have hl := HLK.out
      refine ⟨⟨k + 1, by omega, by go_num, HO2, HB2, HSH2⟩, ?_⟩
      simp [intOf]; omega
    · obtain rfl : k = C := by omega
      obtain ⟨s, l, rfl⟩ := HSH.out
      have HRES := hid (owns_fn HO.out (fun t ht => (HFL.out t ht).2))
      have HBE : Hid (Below w.heap.size w wr) := HB0.out.trans (HBR.out.mono HLT.out.2)
      go_wp2_with fail
      go_ret
      exact ⟨⟨s, l, rfl, HRES.out⟩, HBE.out⟩
end Go.Proofs.Ytmcanbkfijiicaa
