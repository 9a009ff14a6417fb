
/- The document's Row and Col; the law's told, list, same, f. (Written by mkmve.py.) -/
import Derived.Test.YthnblidkbcficaaP33
import Derived.Test.YthnblidkbcficaaP32
namespace Go.Proofs.Ythnblidkbcficaa
open Go.RowKit Go.IntWalk

theorem ownsq_kept {w w' : World} {base : Nat} {v : Value} {xs : List Nat} (h : Owns w base v xs) (hb : Below w.heap.size w w') : Owns w' base v xs := by
  obtain ⟨h1, h2 | ⟨g, cap, cur, e1, e2, e3, e4⟩⟩ := h
  · exact ⟨h1, .inl h2⟩
  · exact ⟨h1, .inr ⟨g, cap, cur, e1, e2, (hb.block g (Array.getElem?_eq_some_iff.1 e3).1).trans e3, e4⟩⟩
set_option maxRecDepth 4000 in
set_option maxHeartbeats 2000000 in
theorem rRow_any (R C p n cap : Nat) (sa : Option Addr) (f : Nat → Nat) (w : World) (h : FnM w sa n cap f) (hR : R ≤ 12) (hC : C ≤ 12) (hn : n = R * C) (hp : p < R) :
    Calls Try.prog 33 #[.agg #[.int .i64 R, .int .i64 C, .slice sa n cap], .int .i64 p] w fun e w' => (∃ s l, e = .returned (.slice s C l) ∧ FnM w' s C l (fun t => f (p * C + t))) ∧ Below w.heap.size w w' := by
  obtain ⟨i0, hi, hz0, hz1, hz2⟩ := info_parts info_f
  have HB0 : Hid (Below w.heap.size w (w.alloc (MBox R C sa n cap))) := (Below.refl _ _).alloc (Nat.le_refl _) _
  have HA0 : Hid ((w.alloc (MBox R C sa n cap)).heap[w.heap.size]? = some (MBox R C sa n cap)) := nblkM _ _
  have HSV : Hid ((w.alloc (MBox R C sa n cap)).heap.size = w.heap.size + 1) := World.size_alloc _ _
  obtain ⟨V, hV⟩ : ∃ V, Hid (w.alloc (MBox R C sa n cap) = V) := ⟨_, rfl⟩
  rw [hV.out] at HB0 HA0 HSV
  have hV' := hV.out
  unfold MBox at hV'
  obtain ⟨mb, hmb⟩ : ∃ t, Hid (w.heap.size = t) := ⟨_, rfl⟩
  rw [hmb.out] at HA0
  have hmb' := hmb.out
  obtain ⟨B, hB⟩ : ∃ t, Hid (V.heap.size = t) := ⟨_, rfl⟩
  have HLT : Hid (mb < B ∧ w.heap.size ≤ B) := by
    have e1 := hmb.out; have e2 := HSV.out; have e3 := hB.out
    show _ ∧ _
    omega
  have HFN := hid (h.below HB0.out)
  have HFL : Hid (∀ t, t < C → p * C + t < n ∧ f (p * C + t) < 18446744073709551616) := fun t ht => by
    have hlt : p * C + t < n := by rw [hn]; exact place_lt hp ht
    exact ⟨hlt, fn_lt h _ hlt⟩
  have HAT : Hid (∀ W t, Below B V W → t < C → Calls Try.prog 27 #[.agg #[.int .i64 R, .int .i64 C, .slice sa n cap], .int .i64 (p : Nat), .int .i64 (t : Nat)] W fun e w' => e = .returned (.float .f64 (f (p * C + t))) ∧ Below W.heap.size W w') := fun W t hW ht => by
    rw [← hB.out] at hW
    exact rAt_fn R sa C n cap _ _ f W (HFN.out.below hW) (by omega) (by omega) (by omega) (HFL.out t ht).1
  have HM : Hid (C ≤ 12) := by show _ ≤ _; omega
  clear h hR hC hn hp
  go_enter Try.func33, Try.ntmps33
  go_wp2_with fail
  go_loopw [5, 6] (fun u jv wr => ∃ k : Nat, k ≤ C ∧ jv = .int .i64 k ∧ Hid (Owns wr B u ((List.range k).map (fun t => f (p * C + t)))) ∧ Hid (Below B V wr) ∧ Hid (∃ s l, u = .slice s k l)) (fun _ jv _ => C - (intOf jv).toNat)
  case atStart => exact ⟨0, Nat.zero_le _, rfl, World.ownsRow_nil _ _ _ _, Below.refl _ _, ⟨none, 0, rfl⟩⟩
  case round =>
    obtain ⟨k, hk, rfl, HO, HBR, HSH⟩ := hrel
    obtain ⟨y0, y1, y2⟩ := mcells_of (w := wr) ((HBR.out.block _ HLT.out.1).trans HA0.out)
    by_cases hlt : k < C
    · have HA1 := hid (HAT.out wr k HBR.out hlt)
      have HRG : Hid ((List.range (k + 1)).map (fun t => f (p * C + t)) = (List.range k).map (fun t => f (p * C + t)) ++ [f (p * C + k)]) := by show _ = _; rw [List.range_succ, List.map_append]; rfl
      obtain ⟨x, hx⟩ : ∃ x, Hid (f (p * C + k) = x) := ⟨_, rfl⟩
      rw [hx.out] at HA1 HRG
      have hkI : (k : Int) < (C : Int) := by omega
      have HLK := hid hlt
      have hm12 := HM.out
      clear hlt
      go_wp2_with fail
      refine HA1.out.mono ?_
      rintro e w1 ⟨rfl, hb1⟩
      have hown := ownsq_kept HO.out hb1
      have HB1 : Hid (Below B V w1) := HBR.out.trans (hb1.mono (by rw [← hB.out]; exact HBR.out.size))
      have hbw : B ≤ w1.heap.size := by rw [← hB.out]; exact HB1.out.size
      unfold Owns at hown
      rw [List.length_map, List.length_range] at hown
      clear hb1
      go_wp2_with (first
        | (at_builtin; (refine wpList_append_own _ rfl _ _ 27 rfl B 51 i0 (.float .f64 0) 1 8 Try.underlying27 hi hz0 hz1 hz2 rfl (by decide) _ _ _ rfl (hown.alloc _) ⟨w1.heap.size, 0, none⟩ 1 1 [.float .f64 x] rfl rfl ?c1 ?c2 ?c3 ?c4 ?c5 ?_)))
      case c1 =>
        intro j u hj
        match j, hj with
        | 0, hj => simp at hj; subst hj; simp [Addr.add]
      case c2 => intro u hu; simp at hu; subst hu; rfl
      case c3 => unfold maxLen; omega
      case c4 => omega
      case c5 => simp; omega
      intro v' w2 hown' hgrow _
      have HSH2 : Hid (∃ s l, v' = .slice s (k + 1) l) := by
        rcases hown'.2 with ⟨_, h0⟩ | ⟨g, l, cur, e1, _⟩
        · omega
        · exact ⟨_, _, e1⟩
      have HO2 : Hid (Owns w2 B v' ((List.range (k + 1)).map (fun t => f (p * C + t)))) := by
        show w2.ownsRow _ _ _ _ _ _
        rw [List.length_map, List.length_range, HRG.out, List.map_append, List.map_map]
        exact hown'
      have HB2 : Hid (Below B V w2) := (HB1.out.alloc hbw _).grown hgrow (by simp; omega) (fun t ht => (World.ownsRow.lt hown t ht).1)
      clear hown' hgrow hown HO HBR
      go_wp2
      have hl := HLK.out
      refine ⟨⟨k + 1, by omega, by go_num, HO2, HB2, HSH2⟩, ?_⟩
      simp [intOf]; omega
    · obtain rfl : k = C := by omega
      obtain ⟨s, l, rfl⟩ := HSH.out
      have HRES := hid (owns_fn HO.out (fun t ht => (HFL.out t ht).2))
      have HBE : Hid (Below w.heap.size w wr) := HB0.out.trans (HBR.out.mono HLT.out.2)
      go_wp2_with fail
      go_ret
      exact ⟨⟨s, l, rfl, HRES.out⟩, HBE.out⟩
set_option maxRecDepth 4000 in
set_option maxHeartbeats 2000000 in
theorem rCol_any (R C p n cap : Nat) (sa : Option Addr) (f : Nat → Nat) (w : World) (h : FnM w sa n cap f) (hR : R ≤ 12) (hC : C ≤ 12) (hn : n = R * C) (hp : p < C) :
    Calls Try.prog 36 #[.agg #[.int .i64 R, .int .i64 C, .slice sa n cap], .int .i64 p] w fun e w' => (∃ s l, e = .returned (.slice s R l) ∧ FnM w' s R l (fun t => f (t * C + p))) ∧ Below w.heap.size w w' := by
  obtain ⟨i0, hi, hz0, hz1, hz2⟩ := info_parts info_f
  have HB0 : Hid (Below w.heap.size w (w.alloc (MBox R C sa n cap))) := (Below.refl _ _).alloc (Nat.le_refl _) _
  have HA0 : Hid ((w.alloc (MBox R C sa n cap)).heap[w.heap.size]? = some (MBox R C sa n cap)) := nblkM _ _
  have HSV : Hid ((w.alloc (MBox R C sa n cap)).heap.size = w.heap.size + 1) := World.size_alloc _ _
  obtain ⟨V, hV⟩ : ∃ V, Hid (w.alloc (MBox R C sa n cap) = V) := ⟨_, rfl⟩
  rw [hV.out] at HB0 HA0 HSV
  have hV' := hV.out
  unfold MBox at hV'
  obtain ⟨mb, hmb⟩ : ∃ t, Hid (w.heap.size = t) := ⟨_, rfl⟩
  rw [hmb.out] at HA0
  have hmb' := hmb.out
  obtain ⟨B, hB⟩ : ∃ t, Hid (V.heap.size = t) := ⟨_, rfl⟩
  have HLT : Hid (mb < B ∧ w.heap.size ≤ B) := by
    have e1 := hmb.out; have e2 := HSV.out; have e3 := hB.out
    show _ ∧ _
    omega
  have HFN := hid (h.below HB0.out)
  have HFL : Hid (∀ t, t < R → t * C + p < n ∧ f (t * C + p) < 18446744073709551616) := fun t ht => by
    have hlt : t * C + p < n := by rw [hn]; exact place_lt ht hp
    exact ⟨hlt, fn_lt h _ hlt⟩
  have HAT : Hid (∀ W t, Below B V W → t < R → Calls Try.prog 27 #[.agg #[.int .i64 R, .int .i64 C, .slice sa n cap], .int .i64 (t : Nat), .int .i64 (p : Nat)] W fun e w' => e = .returned (.float .f64 (f (t * C + p))) ∧ Below W.heap.size W w') := fun W t hW ht => by
    rw [← hB.out] at hW
    exact rAt_fn R sa C n cap _ _ f W (HFN.out.below hW) (by omega) (by omega) (by omega) (HFL.out t ht).1
  have HM : Hid (R ≤ 12) := by show _ ≤ _; omega
  clear h hR hC hn hp
  go_enter Try.func36, Try.ntmps36
  go_wp2_with fail
  go_loopw [5, 6] (fun u jv wr => ∃ k : Nat, k ≤ R ∧ jv = .int .i64 k ∧ Hid (Owns wr B u ((List.range k).map (fun t => f (t * C + p)))) ∧ Hid (Below B V wr) ∧ Hid (∃ s l, u = .slice s k l)) (fun _ jv _ => R - (intOf jv).toNat)
  case atStart => exact ⟨0, Nat.zero_le _, rfl, World.ownsRow_nil _ _ _ _, Below.refl _ _, ⟨none, 0, rfl⟩⟩
  case round =>
    obtain ⟨k, hk, rfl, HO, HBR, HSH⟩ := hrel
    obtain ⟨y0, y1, y2⟩ := mcells_of (w := wr) ((HBR.out.block _ HLT.out.1).trans HA0.out)
    by_cases hlt : k < R
    · have HA1 := hid (HAT.out wr k HBR.out hlt)
      have HRG : Hid ((List.range (k + 1)).map (fun t => f (t * C + p)) = (List.range k).map (fun t => f (t * C + p)) ++ [f (k * C + p)]) := by show _ = _; rw [List.range_succ, List.map_append]; rfl
      obtain ⟨x, hx⟩ : ∃ x, Hid (f (k * C + p) = x) := ⟨_, rfl⟩
      rw [hx.out] at HA1 HRG
      have hkI : (k : Int) < (R : Int) := by omega
      have HLK := hid hlt
      have hm12 := HM.out
      clear hlt
      go_wp2_with fail
      refine HA1.out.mono ?_
      rintro e w1 ⟨rfl, hb1⟩
      have hown := ownsq_kept HO.out hb1
      have HB1 : Hid (Below B V w1) := HBR.out.trans (hb1.mono (by rw [← hB.out]; exact HBR.out.size))
      have hbw : B ≤ w1.heap.size := by rw [← hB.out]; exact HB1.out.size
      unfold Owns at hown
      rw [List.length_map, List.length_range] at hown
      clear hb1
      go_wp2_with (first
        | (at_builtin; (refine wpList_append_own _ rfl _ _ 27 rfl B 51 i0 (.float .f64 0) 1 8 Try.underlying27 hi hz0 hz1 hz2 rfl (by decide) _ _ _ rfl (hown.alloc _) ⟨w1.heap.size, 0, none⟩ 1 1 [.float .f64 x] rfl rfl ?c1 ?c2 ?c3 ?c4 ?c5 ?_)))
      case c1 =>
        intro j u hj
        match j, hj with
        | 0, hj => simp at hj; subst hj; simp [Addr.add]
      case c2 => intro u hu; simp at hu; subst hu; rfl
      case c3 => unfold maxLen; omega
      case c4 => omega
      case c5 => simp; omega
      intro v' w2 hown' hgrow _
      have HSH2 : Hid (∃ s l, v' = .slice s (k + 1) l) := by
        rcases hown'.2 with ⟨_, h0⟩ | ⟨g, l, cur, e1, _⟩
        · omega
        · exact ⟨_, _, e1⟩
      have HO2 : Hid (Owns w2 B v' ((List.range (k + 1)).map (fun t => f (t * C + p)))) := by
        show w2.ownsRow _ _ _ _ _ _
        rw [List.length_map, List.length_range, HRG.out, List.map_append, List.map_map]
        exact hown'
      have HB2 : Hid (Below B V w2) := (HB1.out.alloc hbw _).grown hgrow (by simp; omega) (fun t ht => (World.ownsRow.lt hown t ht).1)
      clear hown' hgrow hown HO HBR
      go_wp2
      have hl := HLK.out
      refine ⟨⟨k + 1, by omega, by go_num, HO2, HB2, HSH2⟩, ?_⟩
      simp [intOf]; omega
    · obtain rfl : k = R := by omega
      obtain ⟨s, l, rfl⟩ := HSH.out
      have HRES := hid (owns_fn HO.out (fun t ht => (HFL.out t ht).2))
      have HBE : Hid (Below w.heap.size w wr) := HB0.out.trans (HBR.out.mono HLT.out.2)
      go_wp2_with fail
      go_ret
      exact ⟨⟨s, l, rfl, HRES.out⟩, HBE.out⟩
set_option maxHeartbeats 400000 in
theorem sameq_any (x y : Nat) (w : World) (hy : y < 18446744073709551616) : Calls Try.prog 26 #[.float .f64 x, .float .f64 y] w fun e w' => e = .returned (.bool (x == canonOf y)) ∧ w' = w := by
  have h1 := f64bits
  have HB := hid (fun W => bitsM_any y W hy)
  clear hy
  go_enter Try.func26, Try.ntmps26
  go_wp2_with fail
  refine (HB.out _).mono ?_
  rintro e w1 ⟨rfl, rfl⟩
  go_wp2_with fail
  go_ret
  exact ⟨ret_bool (nat_beq _ _), rfl⟩
set_option maxHeartbeats 400000 in
theorem fq_any (x : Nat) (w : World) : Calls Try.prog 29 #[.int .u64 x] w fun e w' => e = .returned (.float .f64 x) ∧ w' = w := by
  have h1 := f64from
  go_enter Try.func29, Try.ntmps29
  go_wp2
  go_ret
  exact ⟨rfl, rfl⟩
set_option maxRecDepth 4000 in
set_option maxHeartbeats 1000000 in
/-- told: an error on both sides, nothing beside it. -/
theorem told_no (E : Int) (hE : E ≠ 0) (r2 c2 : Int) (s2 : Option Addr) (n2 k2 : Nat) (w : World) :
    Calls Try.prog 16 #[.agg #[.int .i64 0, .int .i64 0, .slice none 0 0], .int .i64 E, .agg #[.int .i64 r2, .int .i64 c2, .slice s2 n2 k2], .int .i64 E] w fun e w' => e = .returned (.bool true) ∧ Below w.heap.size w w' := by
  obtain ⟨t1, t2, t3, t4⟩ := two_b w (MBox 0 0 none 0 0) (MBox r2 c2 s2 n2 k2)
  have h1 : (E != E) = false := by simp
  have h2 : (E != 0) = true := by simpa using hE
  have h3 : (E == E) = true := by simp
  obtain ⟨V, hV⟩ : ∃ V, Hid ((w.alloc (MBox 0 0 none 0 0)).alloc (MBox r2 c2 s2 n2 k2) = V) := ⟨_, rfl⟩
  rw [hV.out] at t1 t2 t3 t4
  have hV' := hV.out
  have HB := hid t3
  obtain ⟨x0, x1, x2⟩ := mcells_of t1
  unfold MBox at hV'
  clear t1 t2 t3 t4 hE
  go_enter Try.func16, Try.ntmps16
  go_wp2_with fail
  go_ret
  exact ⟨rfl, HB.out⟩
set_option maxRecDepth 4000 in
set_option maxHeartbeats 1000000 in
/-- told: the same matrix on both sides. -/
theorem told_yes8 (r c : Int) (sa sb : Option Addr) (n ca cb : Nat) (f g : Nat → Nat) (w : World) (ha : FnM w sa n ca f) (hb : FnM w sb n cb g) (he : ∀ k, k < n → canonOf (f k) = canonOf (g k)) :
    Calls Try.prog 16 #[.agg #[.int .i64 r, .int .i64 c, .slice sa n ca], .int .i64 0, .agg #[.int .i64 r, .int .i64 c, .slice sb n cb], .int .i64 0] w fun e w' => e = .returned (.bool true) ∧ Below w.heap.size w w' := by
  obtain ⟨t1, t2, t3, t4⟩ := two_b w (MBox r c sa n ca) (MBox r c sb n cb)
  have h1 : ((r : Int) == r) = true := by simp
  have h2 : ((c : Int) == c) = true := by simp
  obtain ⟨V, hV⟩ : ∃ V, Hid ((w.alloc (MBox r c sa n ca)).alloc (MBox r c sb n cb) = V) := ⟨_, rfl⟩
  have HSL := hid (SameL_yes sa sb n ca cb f g _ (ha.below t3) (hb.below t3) he)
  rw [hV.out] at HSL t1 t2 t3 t4
  have hV' := hV.out
  have HB := hid t3
  obtain ⟨x0, x1, x2⟩ := mcells_of t1
  obtain ⟨v0, v1, v2⟩ := mcells_of t2
  unfold MBox at hV'
  clear t1 t2 t3 t4 ha hb he
  go_enter Try.func16, Try.ntmps16
  go_wp2_with fail
  refine HSL.out.mono ?_
  rintro e w1 ⟨rfl, hb1⟩
  have HB1 := hid (HB.out.trans (hb1.mono HB.out.size))
  clear hb1
  go_wp2_with fail
  go_ret
  exact ⟨rfl, HB1.out⟩
set_option maxHeartbeats 400000 in
theorem list_no (E : Int) (hE : E ≠ 0) (s2 : Option Addr) (n2 k2 : Nat) (w : World) :
    Calls Try.prog 34 #[.slice none 0 0, .int .i64 E, .slice s2 n2 k2, .int .i64 E] w fun e w' => e = .returned (.bool true) ∧ Below w.heap.size w w' := by
  have h1 : (E != E) = false := by simp
  have h2 : (E != 0) = true := by simpa using hE
  have h3 : (E == E) = true := by simp
  clear hE
  go_enter Try.func34, Try.ntmps34
  go_wp2_with fail
  go_ret
  exact ⟨rfl, Below.refl _ _⟩
set_option maxHeartbeats 400000 in
theorem list_yes (sa sb : Option Addr) (n ca cb : Nat) (f g : Nat → Nat) (w : World) (ha : FnM w sa n ca f) (hb : FnM w sb n cb g) (he : ∀ k, k < n → canonOf (f k) = canonOf (g k)) :
    Calls Try.prog 34 #[.slice sa n ca, .int .i64 0, .slice sb n cb, .int .i64 0] w fun e w' => e = .returned (.bool true) ∧ Below w.heap.size w w' := by
  have HSL := hid (SameL_yes sa sb n ca cb f g w ha hb he)
  clear ha hb he
  go_enter Try.func34, Try.ntmps34
  go_wp2_with fail
  refine HSL.out.mono ?_
  rintro e w1 ⟨rfl, hb1⟩
  have HB1 := hid hb1
  clear hb1
  go_wp2_with fail
  go_ret
  exact ⟨rfl, HB1.out⟩
end Go.Proofs.Ythnblidkbcficaa

namespace Go.Proofs.Ythnblidkbcficaa
open Go.RowKit Go.IntWalk

set_option maxHeartbeats 2000000 in
theorem rdot_some (b off b2 off2 N ca cb : Nat) (f g : Nat → Nat) (w : World) (hN : N ≤ 17592186043904) (hb1 : b < w.heap.size) (hb2 : b2 < w.heap.size) (hc1 : ∀ j, j < N → w.cell? ⟨b, off + j, none⟩ = some (.float .f64 (f j)) ∧ f j < 18446744073709551616) (hc2 : ∀ j, j < N → w.cell? ⟨b2, off2 + j, none⟩ = some (.float .f64 (g j)) ∧ g j < 18446744073709551616) :
    Calls Try.prog 56 #[.slice (some ⟨b, off, none⟩) N ca, .slice (some ⟨b2, off2, none⟩) N cb] w fun e w' => ∃ z : Nat, e = .returned (.float .f64 z) ∧ (z < 18446744073709551616 ∧ canonOf z = dotM f g N) ∧ Below w.heap.size w w' := by
  have r1 := ar_run .add ok_a
  have r3 := ar_run .mul ok_m
  have HC1 := hid hc1
  have HC2 := hid hc2
  have HB1 := hid hb1
  have HB2 := hid hb2
  clear hc1 hc2 hb1 hb2
  go_enter Try.func56, Try.ntmps56
  go_wp2_with fail
  go_loopw [5, 6] (fun s i wr => ∃ k s0 : Nat, k ≤ N ∧ s = .float .f64 s0 ∧ i = .int .i64 k ∧ Hid (s0 < 18446744073709551616 ∧ canonOf s0 = dotM f g k) ∧ Hid (Below w.heap.size w wr)) (fun _ i _ => N - (intOf i).toNat)
  case atStart => exact ⟨0, 0, Nat.zero_le _, rfl, rfl, ⟨by decide, by show canonOf 0 = 0; decide⟩, Below.refl _ _⟩
  case round =>
    obtain ⟨k, s0, hk, rfl, rfl, HS, HBW⟩ := hrel
    by_cases hlt : k < N
    · have HKS : Hid (∀ W, Hid (Below w.heap.size w W) → (W.cell? ⟨b, off + k, none⟩ = some (.float .f64 (f k)) ∧ W.cell? ⟨b2, off2 + k, none⟩ = some (.float .f64 (g k))) ∧ Hid (Below w.heap.size w W)) := fun W hW => ⟨⟨(hW.out.cell (p := ⟨b, off + k, none⟩) HB1.out).trans (HC1.out k hlt).1, (hW.out.cell (p := ⟨b2, off2 + k, none⟩) HB2.out).trans (HC2.out k hlt).1⟩, hW⟩
      have hx := (HC1.out k hlt).2
      have hy := (HC2.out k hlt).2
      have HD : Hid (∀ W W', arF .add s0 (arF .mul (f k) (g k) W) W' < 18446744073709551616 ∧ canonOf (arF .add s0 (arF .mul (f k) (g k) W) W') = dotM f g (k + 1)) := fun W W' => ⟨arF_lt ok_a _ _ _, by rw [canon_ar ok_a _ _ _ HS.out.1 (arF_lt ok_m _ _ _), canon_ar ok_m _ _ _ hx hy, HS.out.2]; rfl⟩
      obtain ⟨x, hxx⟩ : ∃ x, Hid (f k = x) := ⟨_, rfl⟩
      obtain ⟨y, hyy⟩ : ∃ y, Hid (g k = y) := ⟨_, rfl⟩
      rw [hxx.out, hyy.out] at HKS HD
      have hkI : (k : Int) < (N : Int) := by omega
      have hk0 : (0 : Int) ≤ (k : Int) := by omega
      have HQ0 : Hid (Below w.heap.size w wr.drew) := HBW.out.drew
      have HQ1 : Hid (Below w.heap.size w (arG .mul x y wr.drew)) := bl_ar HQ0.out _ _ _
      have HQ2 : Hid (Below w.heap.size w (arG .add s0 (arF .mul x y wr.drew) (arG .mul x y wr.drew))) := bl_ar HQ1.out _ _ _
      have HK := hid hlt
      clear hx hy hlt
      go_wp2_with fail
      refine wp_region_held_drew (S := fun W => (W.cell? ⟨b, off + k, none⟩ = some (.float .f64 x) ∧ W.cell? ⟨b2, off2 + k, none⟩ = some (.float .f64 y)) ∧ Hid (Below w.heap.size w W)) (by kernel_rfl) (HKS.out _ HQ0) (fun hHeld => ?_)
      refine take_at 0 13 (.float .f64 s0) rfl rfl (by kernel_rfl) (by kernel_rfl) (by kernel_rfl) (fun _ _ _ h => h) (Or.inl ⟨by rfl, fun w hSw => by (try dsimp only at hSw); go_simp⟩) (by assumption) ?_
      simp only [Act.put, List.setIfInBounds_toArray, List.set_cons_zero, List.set_cons_succ]
      refine take_at 1 14 (.slice (some ⟨b, off, none⟩) N ca) rfl rfl (by kernel_rfl) (by kernel_rfl) (by kernel_rfl) (fun _ _ _ h => h) (Or.inl ⟨by rfl, fun w hSw => by (try dsimp only at hSw); go_simp⟩) (by assumption) ?_
      simp only [Act.put, List.setIfInBounds_toArray, List.set_cons_zero, List.set_cons_succ]
      refine take_at 2 15 (.int .i64 k) rfl rfl (by kernel_rfl) (by kernel_rfl) (by kernel_rfl) (fun _ _ _ h => h) (Or.inl ⟨by rfl, fun w hSw => by (try dsimp only at hSw); go_simp⟩) (by assumption) ?_
      simp only [Act.put, List.setIfInBounds_toArray, List.set_cons_zero, List.set_cons_succ]
      refine take_at 3 16 (.pointer (some ⟨b, off + k, none⟩)) rfl rfl (by kernel_rfl) (by kernel_rfl) (by kernel_rfl) (fun _ _ _ h => h) (Or.inl ⟨by rfl, fun w hSw => by (try dsimp only at hSw); go_simp⟩) (by assumption) ?_
      simp only [Act.put, List.setIfInBounds_toArray, List.set_cons_zero, List.set_cons_succ]
      refine take_at 4 17 (.float .f64 x) rfl rfl (by kernel_rfl) (by kernel_rfl) (by kernel_rfl) (fun _ _ _ h => h) (Or.inl ⟨by rfl, fun w hSw => by (try dsimp only at hSw); go_simp⟩) (by assumption) ?_
      simp only [Act.put, List.setIfInBounds_toArray, List.set_cons_zero, List.set_cons_succ]
      refine take_at 5 18 (.slice (some ⟨b2, off2, none⟩) N cb) rfl rfl (by kernel_rfl) (by kernel_rfl) (by kernel_rfl) (fun _ _ _ h => h) (Or.inl ⟨by rfl, fun w hSw => by (try dsimp only at hSw); go_simp⟩) (by assumption) ?_
      simp only [Act.put, List.setIfInBounds_toArray, List.set_cons_zero, List.set_cons_succ]
      refine take_at 6 19 (.int .i64 k) rfl rfl (by kernel_rfl) (by kernel_rfl) (by kernel_rfl) (fun _ _ _ h => h) (Or.inl ⟨by rfl, fun w hSw => by (try dsimp only at hSw); go_simp⟩) (by assumption) ?_
      simp only [Act.put, List.setIfInBounds_toArray, List.set_cons_zero, List.set_cons_succ]
      refine take_at 7 20 (.pointer (some ⟨b2, off2 + k, none⟩)) rfl rfl (by kernel_rfl) (by kernel_rfl) (by kernel_rfl) (fun _ _ _ h => h) (Or.inl ⟨by rfl, fun w hSw => by (try dsimp only at hSw); go_simp⟩) (by assumption) ?_
      simp only [Act.put, List.setIfInBounds_toArray, List.set_cons_zero, List.set_cons_succ]
      refine take_at 8 21 (.float .f64 y) rfl rfl (by kernel_rfl) (by kernel_rfl) (by kernel_rfl) (fun _ _ _ h => h) (Or.inl ⟨by rfl, fun w hSw => by (try dsimp only at hSw); go_simp⟩) (by assumption) ?_
      simp only [Act.put, List.setIfInBounds_toArray, List.set_cons_zero, List.set_cons_succ]
      refine wpAnyH_ready (rs := [9]) (by kernel_rfl) (by simp) ?_
      refine AllReadyH.cons (o := _) rfl (fun K hK => ?_) AllReadyH.nil
      go_simp
      go_wp2_with fail
      refine hK.out _ _ (HKS.out _ HQ1) (fun hHeld1 => ?_)
      clear hK K
      try simp only [Act.put, List.setIfInBounds_toArray, List.set_cons_zero, List.set_cons_succ]
      refine wpAnyH_ready (rs := [10]) (by kernel_rfl) (by simp) ?_
      refine AllReadyH.cons (o := _) rfl (fun K hK => ?_) AllReadyH.nil
      go_simp
      go_wp2_with fail
      refine hK.out _ _ (HKS.out _ HQ2) (fun hHeld2 => ?_)
      clear hK K
      try simp only [Act.put, List.setIfInBounds_toArray, List.set_cons_zero, List.set_cons_succ]
      refine take_at 11 5 (.float .f64 (arF .add s0 (arF .mul x y wr.drew) (arG .mul x y wr.drew))) rfl rfl (by kernel_rfl) (by kernel_rfl) (by kernel_rfl) (fun _ _ _ h => h) (Or.inl ⟨by rfl, fun w hSw => by (try dsimp only at hSw); go_simp⟩) (by assumption) ?_
      simp only [Act.put, List.setIfInBounds_toArray, List.set_cons_zero, List.set_cons_succ]
      refine wpAnyH_done (by kernel_rfl) ?_ _
      go_wp2_with fail
      have hk1 := HK.out
      refine ⟨⟨k + 1, _, by omega, rfl, by go_num, HD.out _ _, HQ2⟩, ?_⟩
      simp [intOf]; omega
    · obtain rfl : k = N := by omega
      go_wp2_with fail
      go_ret
      exact ⟨_, rfl, HS.out, HBW.out⟩
set_option maxHeartbeats 400000 in
theorem rdot_zero (sa sb : Option Addr) (ca cb : Nat) (w : World) : Calls Try.prog 56 #[.slice sa 0 ca, .slice sb 0 cb] w fun e w' => e = .returned (.float .f64 0) ∧ Below w.heap.size w w' := by
  go_enter Try.func56, Try.ntmps56
  go_wp2_with fail
  go_loopw [5, 6] (fun s i wr => s = .float .f64 0 ∧ i = .int .i64 0 ∧ Below w.heap.size w wr) (fun _ _ _ => 0)
  case atStart => exact ⟨rfl, rfl, Below.refl _ _⟩
  case round =>
    obtain ⟨rfl, rfl, hb⟩ := hrel
    go_wp2_with fail
    go_ret
    exact ⟨rfl, hb⟩
theorem rDot_any (sa sb : Option Addr) (n ca cb : Nat) (f g : Nat → Nat) (w : World) (hn : n ≤ 17592186043904) (ha : FnM w sa n ca f) (hb : FnM w sb n cb g) : Calls Try.prog 56 #[.slice sa n ca, .slice sb n cb] w fun e w' => ∃ z : Nat, e = .returned (.float .f64 z) ∧ (z < 18446744073709551616 ∧ canonOf z = dotM f g n) ∧ Below w.heap.size w w' := by
  by_cases h : n = 0
  · subst h
    refine (rdot_zero sa sb ca cb w).mono ?_
    rintro e w' ⟨rfl, h2⟩
    exact ⟨0, rfl, ⟨by decide, by show canonOf 0 = 0; decide⟩, h2⟩
  · rcases ha with ⟨_, h2, _⟩ | ⟨b, off, rfl, q1, _, _, q4⟩
    · exact absurd h2 h
    rcases hb with ⟨_, h2, _⟩ | ⟨b2, off2, rfl, q5, _, _, q8⟩
    · exact absurd h2 h
    exact rdot_some b off b2 off2 n ca cb f g w hn q1 q5 q4 q8
end Go.Proofs.Ythnblidkbcficaa
