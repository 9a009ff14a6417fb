
/- The document's Row and Col; the law's told, list, same, f. (Written by mkmve.py.) -/
import Derived.Test.YtfkpdjieiifldaaP46
namespace Go.Proofs.Ytfkpdjieiifldaa
open Go.RowKit Go.IntWalk

theorem ownsq_kept {w w' : World} {base : Nat} {v : Value} {xs : List Nat} (h : Owns w base v xs) (hb : Below w.heap.size w w') : Owns w' base v xs := by
  obtain ⟨h1, h2 | ⟨g, cap, cur, e1, e2, e3, e4⟩⟩ := h
  · exact ⟨h1, .inl h2⟩
  · exact ⟨h1, .inr ⟨g, cap, cur, e1, e2, (hb.block g (Array.getElem?_eq_some_iff.1 e3).1).trans e3, e4⟩⟩
set_option maxRecDepth 4000 in
set_option maxHeartbeats 2000000 in
theorem rRow_any (R C p n cap : Nat) (sa : Option Addr) (f : Nat → Nat) (w : World) (h : FnM w sa n cap f) (hR : R ≤ 12) (hC : C ≤ 12) (hn : n = R * C) (hp : p < R) :
    Calls Try.prog 33 #[.agg #[.int .i64 R, .int .i64 C, .slice sa n cap], .int .i64 p] w fun e w' => (∃ s l, e = .returned (.slice s C l) ∧ FnM w' s C l (fun t => f (p * C + t))) ∧ Below w.heap.size w w' := by
  obtain ⟨i0, hi, hz0, hz1, hz2⟩ := info_parts info_f
  have HB0 : Hid (Below w.heap.size w (w.alloc (MBox R C sa n cap))) := (Below.refl _ _).alloc (Nat.le_refl _) _
  have HA0 : Hid ((w.alloc (MBox R C sa n cap)).heap[w.heap.size]? = some (MBox R C sa n cap)) := nblkM _ _
  have HSV : Hid ((w.alloc (MBox R C sa n cap)).heap.size = w.heap.size + 1) := World.size_alloc _ _
  obtain ⟨V, hV⟩ : ∃ V, Hid (w.alloc (MBox R C sa n cap) = V) := ⟨_, rfl⟩
  rw [hV.out] at HB0 HA0 HSV
  have hV' := hV.out
  unfold MBox at hV'
  obtain ⟨mb, hmb⟩ : ∃ t, Hid (w.heap.size = t) := ⟨_, rfl⟩
  rw [hmb.out] at HA0
  have hmb' := hmb.out
  obtain ⟨B, hB⟩ : ∃ t, Hid (V.heap.size = t) := ⟨_, rfl⟩
  have HLT : Hid (mb < B ∧ w.heap.size ≤ B) := by
    have e1 := hmb.out; have e2 := HSV.out; have e3 := hB.out
    show _ ∧ _
    omega
  have HFN := hid (h.below HB0.out)
  have HFL : Hid (∀ t, t < C → p * C + t < n ∧ f (p * C + t) < 18446744073709551616) := fun t ht => by
    have hlt : p * C + t < n := by rw [hn]; exact place_lt hp ht
    exact ⟨hlt, fn_lt h _ hlt⟩
  have HAT : Hid (∀ W t, Below B V W → t < C → Calls Try.prog 27 #[.agg #[.int .i64 R, .int .i64 C, .slice sa n cap], .int .i64 (p : Nat), .int .i64 (t : Nat)] W fun e w' => e = .returned (.float .f64 (f (p * C + t))) ∧ Below W.heap.size W w') := fun W t hW ht => by
    rw [← hB.out] at hW
    exact rAt_fn R sa C n cap _ _ f W (HFN.out.below hW) (by omega) (by omega) (by omega) (HFL.out t ht).1
  have HM : Hid (C ≤ 12) := by show _ ≤ _; omega
  clear h hR hC hn hp
  go_enter Try.func33, Try.ntmps33
  go_wp2_with fail
  go_loopw [5, 6] (fun u jv wr => ∃ k : Nat, k ≤ C ∧ jv = .int .i64 k ∧ Hid (Owns wr B u ((List.range k).map (fun t => f (p * C + t)))) ∧ Hid (Below B V wr) ∧ Hid (∃ s l, u = .slice s k l)) (fun _ jv _ => C - (intOf jv).toNat)
  case atStart => exact ⟨0, Nat.zero_le _, rfl, World.ownsRow_nil _ _ _ _, Below.refl _ _, ⟨none, 0, rfl⟩⟩
  case round =>
    obtain ⟨k, hk, rfl, HO, HBR, HSH⟩ := hrel
    obtain ⟨y0, y1, y2⟩ := mcells_of (w := wr) ((HBR.out.block _ HLT.out.1).trans HA0.out)
    by_cases hlt : k < C
    · have HA1 := hid (HAT.out wr k HBR.out hlt)
      have HRG : Hid ((List.range (k + 1)).map (fun t => f (p * C + t)) = (List.range k).map (fun t => f (p * C + t)) ++ [f (p * C + k)]) := by show _ = _; rw [List.range_succ, List.map_append]; rfl
      obtain ⟨x, hx⟩ : ∃ x, Hid (f (p * C + k) = x) := ⟨_, rfl⟩
      rw [hx.out] at HA1 HRG
      have hkI : (k : Int) < (C : Int) := by omega
      have HLK := hid hlt
      have hm12 := HM.out
      clear hlt
      go_wp2_with fail
      refine HA1.out.mono ?_
      rintro e w1 ⟨rfl, hb1⟩
      have hown := ownsq_kept HO.out hb1
      have HB1 : Hid (Below B V w1) := HBR.out.trans (hb1.mono (by rw [← hB.out]; exact HBR.out.size))
      have hbw : B ≤ w1.heap.size := by rw [← hB.out]; exact HB1.out.size
      unfold Owns at hown
      rw [List.length_map, List.length_range] at hown
      clear hb1
      go_wp2_with (first
        | (at_builtin; (refine wpList_append_own _ rfl _ _ 27 rfl B 51 i0 (.float .f64 0) 1 8 Try.underlying27 hi hz0 hz1 hz2 rfl (by decide) _ _ _ rfl (hown.alloc _) ⟨w1.heap.size, 0, none⟩ 1 1 [.float .f64 x] rfl rfl ?c1 ?c2 ?c3 ?c4 ?c5 ?_)))
      case c1 =>
        intro j u hj
        match j, hj with
        | 0, hj => simp at hj; subst hj; simp [Addr.add]
      case c2 => intro u hu; simp at hu; subst hu; rfl
      case c3 => unfold maxLen; omega
      case c4 => omega
      case c5 => simp; omega
      intro v' w2 hown' hgrow _
      have HSH2 : Hid (∃ s l, v' = .slice s (k + 1) l) := by
        rcases hown'.2 with ⟨_, h0⟩ | ⟨g, l, cur, e1, _⟩
        · omega
        · exact ⟨_, _, e1⟩
      have HO2 : Hid (Owns w2 B v' ((List.range (k + 1)).map (fun t => f (p * C + t)))) := by
        show w2.ownsRow _ _ _ _ _ _
        rw [List.length_map, List.length_range, HRG.out, List.map_append, List.map_map]
        exact hown'
      have HB2 : Hid (Below B V w2) := (HB1.out.alloc hbw _).grown hgrow (by simp; omega) (fun t ht => (World.ownsRow.lt hown t ht).1)
      clear hown' hgrow hown HO HBR
      go_wp2
      have hl := HLK.out
      refine ⟨⟨k + 1, by omega, by go_num, HO2, HB2, HSH2⟩, ?_⟩
      simp [intOf]; omega
    · obtain rfl : k = C := by omega
      obtain ⟨s, l, rfl⟩ := HSH.out
      have HRES := hid (owns_fn HO.out (fun t ht => (HFL.out t ht).2))
      have HBE : Hid (Below w.heap.size w wr) := HB0.out.trans (HBR.out.mono HLT.out.2)
      go_wp2_with fail
      go_ret
      exact ⟨⟨s, l, rfl, HRES.out⟩, HBE.out⟩
set_option maxRecDepth 4000 in
set_option maxHeartbeats 2000000 in
theorem rCol_any (R C p n cap : Nat) (sa : Option Addr) (f : Nat → Nat) (w : World) (h : FnM w sa n cap f) (hR : R ≤ 12) (hC : C ≤ 12) (hn : n = R * C) (hp : p < C) :
    Calls Try.prog 36 #[.agg #[.int .i64 R, .int .i64 C, .slice sa n cap], .int .i64 p] w fun e w' => (∃ s l, e = .returned (.slice s R l) ∧ FnM w' s R l (fun t => f (t * C + p))) ∧ Below w.heap.size w w' := by
  obtain ⟨i0, hi, hz0, hz1, hz2⟩ := info_parts info_f
  have HB0 : Hid (Below w.heap.size w (w.alloc (MBox R C sa n cap))) := (Below.refl _ _).alloc (Nat.le_refl _) _
  have HA0 : Hid ((w.alloc (MBox R C sa n cap)).heap[w.heap.size]? = some (MBox R C sa n cap)) := nblkM _ _
  have HSV : Hid ((w.alloc (MBox R C sa n cap)).heap.size = w.heap.size + 1) := World.size_alloc _ _
  obtain ⟨V, hV⟩ : ∃ V, Hid (w.alloc (MBox R C sa n cap) = V) := ⟨_, rfl⟩
  rw [hV.out] at HB0 HA0 HSV
  have hV' := hV.out
  unfold MBox at hV'
  obtain ⟨mb, hmb⟩ : ∃ t, Hid (w.heap.size = t) := ⟨_, rfl⟩
  rw [hmb.out] at HA0
  have hmb' := hmb.out
  obtain ⟨B, hB⟩ : ∃ t, Hid (V.heap.size = t) := ⟨_, rfl⟩
  have HLT : Hid (mb < B ∧ w.heap.size ≤ B) := by
    have e1 := hmb.out; have e2 := HSV.out; have e3 := hB.out
    show _ ∧ _
    omega
  have HFN := hid (h.below HB0.out)
  have HFL : Hid (∀ t, t < R → t * C + p < n ∧ f (t * C + p) < 18446744073709551616) := fun t ht => by
    have hlt : t * C + p < n := by rw [hn]; exact place_lt ht hp
    exact ⟨hlt, fn_lt h _ hlt⟩
  have HAT : Hid (∀ W t, Below B V W → t < R → Calls Try.prog 27 #[.agg #[.int .i64 R, .int .i64 C, .slice sa n cap], .int .i64 (t : Nat), .int .i64 (p : Nat)] W fun e w' => e = .returned (.float .f64 (f (t * C + p))) ∧ Below W.heap.size W w') := fun W t hW ht => by
    rw [← hB.out] at hW
    exact rAt_fn R sa C n cap _ _ f W (HFN.out.below hW) (by omega) (by omega) (by omega) (HFL.out t ht).1
  have HM : Hid (R ≤ 12) := by show _ ≤ _; omega
  clear h hR hC hn hp
  go_enter Try.func36, Try.ntmps36
  go_wp2_with fail
  go_loopw [5, 6] (fun u jv wr => ∃ k : Nat, k ≤ R ∧ jv = .int .i64 k ∧ Hid (Owns wr B u ((List.range k).map (fun t => f (t * C + p)))) ∧ Hid (Below B V wr) ∧ Hid (∃ s l, u = .slice s k l)) (fun _ jv _ => R - (intOf jv).toNat)
  case atStart => exact ⟨0, Nat.zero_le _, rfl, World.ownsRow_nil _ _ _ _, Below.refl _ _, ⟨none, 0, rfl⟩⟩
  case round =>
    obtain ⟨k, hk, rfl, HO, HBR, HSH⟩ := hrel
    obtain ⟨y0, y1, y2⟩ := mcells_of (w := wr) ((HBR.out.block _ HLT.out.1).trans HA0.out)
    by_cases hlt : k < R
    · have HA1 := hid (HAT.out wr k HBR.out hlt)
      have HRG : Hid ((List.range (k + 1)).map (fun t => f (t * C + p)) = (List.range k).map (fun t => f (t * C + p)) ++ [f (k * C + p)]) := by show _ = _; rw [List.range_succ, List.map_append]; rfl
      obtain ⟨x, hx⟩ : ∃ x, Hid (f (k * C + p) = x) := ⟨_, rfl⟩
      rw [hx.out] at HA1 HRG
      have hkI : (k : Int) < (R : Int) := by omega
      have HLK := hid hlt
      have hm12 := HM.out
      clear hlt
      go_wp2_with fail
      refine HA1.out.mono ?_
      rintro e w1 ⟨rfl, hb1⟩
      have hown := ownsq_kept HO.out hb1
      have HB1 : Hid (Below B V w1) := HBR.out.trans (hb1.mono (by rw [← hB.out]; exact HBR.out.size))
      have hbw : B ≤ w1.heap.size := by rw [← hB.out]; exact HB1.out.size
      unfold Owns at hown
      rw [List.length_map, List.length_range] at hown
      clear hb1
      go_wp2_with (first
        | (at_builtin; (refine wpList_append_own _ rfl _ _ 27 rfl B 51 i0 (.float .f64 0) 1 8 Try.underlying27 hi hz0 hz1 hz2 rfl (by decide) _ _ _ rfl (hown.alloc _) ⟨w1.heap.size, 0, none⟩ 1 1 [.float .f64 x] rfl rfl ?c1 ?c2 ?c3 ?c4 ?c5 ?_)))
      case c1 =>
        intro j u hj
        match j, hj with
        | 0, hj => simp at hj; subst hj; simp [Addr.add]
      case c2 => intro u hu; simp at hu; subst hu; rfl
      case c3 => unfold maxLen; omega
      case c4 => omega
      case c5 => simp; omega
      intro v' w2 hown' hgrow _
      have HSH2 : Hid (∃ s l, v' = .slice s (k + 1) l) := by
        rcases hown'.2 with ⟨_, h0⟩ | ⟨g, l, cur, e1, _⟩
        · omega
        · exact ⟨_, _, e1⟩
      have HO2 : Hid (Owns w2 B v' ((List.range (k + 1)).map (fun t => f (t * C + p)))) := by
        show w2.ownsRow _ _ _ _ _ _
        rw [List.length_map, List.length_range, HRG.out, List.map_append, List.map_map]
        exact hown'
      have HB2 : Hid (Below B V w2) := (HB1.out.alloc hbw _).grown hgrow (by simp; omega) (fun t ht => (World.ownsRow.lt hown t ht).1)
      clear hown' hgrow hown HO HBR
      go_wp2
      have hl := HLK.out
      refine ⟨⟨k + 1, by omega, by go_num, HO2, HB2, HSH2⟩, ?_⟩
      simp [intOf]; omega
    · obtain rfl : k = R := by omega
      obtain ⟨s, l, rfl⟩ := HSH.out
      have HRES := hid (owns_fn HO.out (fun t ht => (HFL.out t ht).2))
      have HBE : Hid (Below w.heap.size w wr) := HB0.out.trans (HBR.out.mono HLT.out.2)
      go_wp2_with fail
      go_ret
      exact ⟨⟨s, l, rfl, HRES.out⟩, HBE.out⟩
set_option maxHeartbeats 400000 in
theorem sameq_any (x y : Nat) (w : World) (hy : y < 18446744073709551616) : Calls Try.prog 26 #[.float .f64 x, .float .f64 y] w fun e w' => e = .returned (.bool (x == canonOf y)) ∧ w' = w := by
  have h1 := f64bits
  have HB := hid (fun W => bitsM_any y W hy)
  clear hy
  go_enter Try.func26, Try.ntmps26
  go_wp2_with fail
  refine (HB.out _).mono ?_
  rintro e w1 ⟨rfl, rfl⟩
  go_wp2_with fail
  go_ret
  exact ⟨ret_bool (nat_beq _ _), rfl⟩
set_option maxHeartbeats 400000 in
theorem fq_any (x : Nat) (w : World) : Calls Try.prog 29 #[.int .u64 x] w fun e w' => e = .returned (.float .f64 x) ∧ w' = w := by
  have h1 := f64from
  go_enter Try.func29, Try.ntmps29
  go_wp2
  go_ret
  exact ⟨rfl, rfl⟩
set_option maxRecDepth 4000 in
set_option maxHeartbeats 1000000 in
/-- told: an error on both sides, nothing beside it. -/
theorem told_no (E : Int) (hE : E ≠ 0) (r2 c2 : Int) (s2 : Option Addr) (n2 k2 : Nat) (w : World) :
    Calls Try.prog 16 #[.agg #[.int .i64 0, .int .i64 0, .slice none 0 0], .int .i64 E, .agg #[.int .i64 r2, .int .i64 c2, .slice s2 n2 k2], .int .i64 E] w fun e w' => e = .returned (.bool true) ∧ Below w.heap.size w w' := by
  obtain ⟨t1, t2, t3, t4⟩ := two_b w (MBox 0 0 none 0 0) (MBox r2 c2 s2 n2 k2)
  have h1 : (E != E) = false := by simp
  have h2 : (E != 0) = true := by simpa using hE
  have h3 : (E == E) = true := by simp
  obtain ⟨V, hV⟩ : ∃ V, Hid ((w.alloc (MBox 0 0 none 0 0)).alloc (MBox r2 c2 s2 n2 k2) = V) := ⟨_, rfl⟩
  rw [hV.out] at t1 t2 t3 t4
  have hV' := hV.out
  have HB := hid t3
  obtain ⟨x0, x1, x2⟩ := mcells_of t1
  unfold MBox at hV'
  clear t1 t2 t3 t4 hE
  go_enter Try.func16, Try.ntmps16
  go_wp2_with fail
  go_ret
  exact ⟨rfl, HB.out⟩
set_option maxRecDepth 4000 in
set_option maxHeartbeats 1000000 in
/-- told: the same matrix on both sides. -/
theorem told_yes8 (r c : Int) (sa sb : Option Addr) (n ca cb : Nat) (f g : Nat → Nat) (w : World) (ha : FnM w sa n ca f) (hb : FnM w sb n cb g) (he : ∀ k, k < n → canonOf (f k) = canonOf (g k)) :
    Calls Try.prog 16 #[.agg #[.int .i64 r, .int .i64 c, .slice sa n ca], .int .i64 0, .agg #[.int .i64 r, .int .i64 c, .slice sb n cb], .int .i64 0] w fun e w' => e = .returned (.bool true) ∧ Below w.heap.size w w' := by
  obtain ⟨t1, t2, t3, t4⟩ := two_b w (MBox r c sa n ca) (MBox r c sb n cb)
  have h1 : ((r : Int) == r) = true := by simp
  have h2 : ((c : Int) == c) = true := by simp
  obtain ⟨V, hV⟩ : ∃ V, Hid ((w.alloc (MBox r c sa n ca)).alloc (MBox r c sb n cb) = V) := ⟨_, rfl⟩
  have HSL := hid (SameL_yes sa sb n ca cb f g _ (ha.below t3) (hb.below t3) he)
  rw [hV.out] at HSL t1 t2 t3 t4
  have hV' := hV.out
  have HB := hid t3
  obtain ⟨x0, x1, x2⟩ := mcells_of t1
  obtain ⟨v0, v1, v2⟩ := mcells_of t2
  unfold MBox at hV'
  clear t1 t2 t3 t4 ha hb he
  go_enter Try.func16, Try.ntmps16
  go_wp2_with fail
  refine HSL.out.mono ?_
  rintro e w1 ⟨rfl, hb1⟩
  have HB1 := hid (HB.out.trans (hb1.mono HB.out.size))
  clear hb1
  go_wp2_with fail
  go_ret
  exact ⟨rfl, HB1.out⟩
set_option maxHeartbeats 400000 in
theorem list_no (E : Int) (hE : E ≠ 0) (s2 : Option Addr) (n2 k2 : Nat) (w : World) :
    Calls Try.prog 34 #[.slice none 0 0, .int .i64 E, .slice s2 n2 k2, .int .i64 E] w fun e w' => e = .returned (.bool true) ∧ Below w.heap.size w w' := by
  have h1 : (E != E) = false := by simp
  have h2 : (E != 0) = true := by simpa using hE
  have h3 : (E == E) = true := by simp
  clear hE
  go_enter Try.func34, Try.ntmps34
  go_wp2_with fail
  go_ret
  exact ⟨rfl, Below.refl _ _⟩
set_option maxHeartbeats 400000 in
theorem list_yes (sa sb : Option Addr) (n ca cb : Nat) (f g : Nat → Nat) (w : World) (ha : FnM w sa n ca f) (hb : FnM w sb n cb g) (he : ∀ k, k < n → canonOf (f k) = canonOf (g k)) :
    Calls Try.prog 34 #[.slice sa n ca, .int .i64 0, .slice sb n cb, .int .i64 0] w fun e w' => e = .returned (.bool true) ∧ Below w.heap.size w w' := by
  have HSL := hid (SameL_yes sa sb n ca cb f g w ha hb he)
  clear ha hb he
  go_enter Try.func34, Try.ntmps34
  go_wp2_with fail
  refine HSL.out.mono ?_
  rintro e w1 ⟨rfl, hb1⟩
  have HB1 := hid hb1
  clear hb1
  go_wp2_with fail
  go_ret
  exact ⟨rfl, HB1.out⟩
end Go.Proofs.Ytfkpdjieiifldaa
