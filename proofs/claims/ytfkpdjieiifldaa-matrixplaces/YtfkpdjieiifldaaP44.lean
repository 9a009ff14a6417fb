
/- matrix: Get, Row, Col, With. -/
import Derived.Test.YtfkpdjieiifldaaP43
namespace Go.Proofs.Ytfkpdjieiifldaa
open Go.RowKit Go.IntWalk

theorem field2_run (a b c : Value) (w : World) : (Instr.field 32 (.agg #[a, b, c]) 2).run Try.prog w = .ok c w := by
  unfold Instr.field
  simp [go_sem]
  rfl
theorem span_zero {r c i j a b : Int} {n : Nat} {xs : List Nat} (h : spanE (chkM r c n xs) r c i j a b = 0) : chkM r c n xs = 0 ∧ ∃ R C p q : Nat, r = R ∧ c = C ∧ i = p ∧ j = q ∧ (p : Int) + a ≤ R ∧ (q : Int) + b ≤ C ∧ R ≤ 12 ∧ C ≤ 12 ∧ n = R * C ∧ finM xs = true := by
  unfold spanE at h
  by_cases hE : chkM r c n xs = 0
  · rw [if_neg (fun hc => hc hE)] at h
    by_cases hd : i < 0 ∨ j < 0 ∨ r - a < i ∨ c - b < j
    · rw [if_pos hd] at h; cases h
    · obtain ⟨R, C, rfl, rfl, h1, h2, h3, h4⟩ := chk_some hE
      obtain ⟨p, rfl⟩ := Int.eq_ofNat_of_zero_le (show 0 ≤ i by omega)
      obtain ⟨q, rfl⟩ := Int.eq_ofNat_of_zero_le (show 0 ≤ j by omega)
      exact ⟨hE, R, C, p, q, rfl, rfl, rfl, rfl, by omega, by omega, h1, h2, h3, h4⟩
  · rw [if_pos hE] at h
    exact absurd h hE
set_option maxRecDepth 4000 in
set_option maxHeartbeats 1000000 in
theorem Get_any (r c : Int) (sa : Option Addr) (n cap : Nat) (xs : List Nat) (i j : Int) (w : World) (h : FlM w sa n cap xs) (hn : n ≤ 17592186043904) :
    Calls Try.prog 25 #[.agg #[.int .i64 r, .int .i64 c, .slice sa n cap], .int .i64 i, .int .i64 j] w fun e w' => (∃ v : Nat, e = .returned (.tuple #[.float .f64 v, .int .i64 (spanE (chkM r c n xs) r c i j 1 1)]) ∧ (spanE (chkM r c n xs) r c i j 1 1 ≠ 0 → v = 0) ∧ (spanE (chkM r c n xs) r c i j 1 1 = 0 → v = xs.getD (i.toNat * c.toNat + j.toNat) 0)) ∧ Below w.heap.size w w' := by
  have HB0 : Hid (Below w.heap.size w (w.alloc (MBox r c sa n cap))) := (Below.refl _ _).alloc (Nat.le_refl _) _
  have HA0 : Hid ((w.alloc (MBox r c sa n cap)).heap[w.heap.size]? = some (MBox r c sa n cap)) := nblkM _ _
  obtain ⟨V, hV⟩ : ∃ V, Hid (w.alloc (MBox r c sa n cap) = V) := ⟨_, rfl⟩
  rw [hV.out] at HB0 HA0
  have HF := hid (place_any r c sa n cap xs i j V (h.below HB0.out) hn)
  have HFL := hid (h.below HB0.out)
  have hV' := hV.out
  unfold MBox at hV'
  obtain ⟨x0, x1, x2⟩ := mcells_of HA0.out
  obtain ⟨F, hF⟩ : ∃ E, Hid (spanE (chkM r c n xs) r c i j 1 1 = E) := ⟨_, rfl⟩
  rw [hF.out] at HF ⊢
  clear h hn
  by_cases hF0 : F = 0
  · obtain ⟨hE, R, C, p, q, rfl, rfl, rfl, rfl, p1, q1, l1, l2, l3, l4⟩ := span_zero (hF.out.trans hF0)
    have HAT := hid (fun W (hW : Below V.heap.size V W) => at_any R sa C n cap p q xs W (HFL.out.below hW) (by omega) (by omega) (by omega) (by rw [l3]; exact place_lt (by omega) (by omega)))
    unfold MV at HAT
    have HX : Hid ((p : Int).toNat * (C : Int).toNat + (q : Int).toNat = p * C + q) := rfl
    rw [HX.out]
    subst hF0
    clear p1 q1 l1 l2 l3 l4 hE hF
    go_enter Try.func25, Try.ntmps25
    go_wp2_with fail
    refine HF.out.mono ?_
    rintro e w2 ⟨rfl, hb2⟩
    have HB2 := hid (HB0.out.trans (hb2.mono HB0.out.size))
    have HA2 := hid (HAT.out _ hb2)
    obtain ⟨y0, y1, y2⟩ := mcells_of (blkM HA0.out hb2)
    clear hb2
    go_wp2_with fail
    refine HA2.out.mono ?_
    rintro e w3 ⟨rfl, hb3⟩
    have HB3 := hid (HB2.out.trans (hb3.mono HB2.out.size))
    clear hb3
    go_wp2_with fail
    go_ret2
    exact ⟨⟨_, rfl, fun h => absurd rfl h, fun _ => rfl⟩, HB3.out⟩
  · have hne : (F != 0) = true := by simpa using hF0
    have HN0 := hid hF0
    clear hF0
    go_enter Try.func25, Try.ntmps25
    go_wp2_with fail
    refine HF.out.mono ?_
    rintro e w2 ⟨rfl, hb2⟩
    have HB2 := hid (HB0.out.trans (hb2.mono HB0.out.size))
    clear hb2
    go_wp2_with fail
    go_ret2
    exact ⟨⟨0, rfl, fun _ => rfl, fun h => absurd h HN0.out⟩, HB2.out⟩
/-- A list handed back: numbers told by a function, or nothing. -/
def LstR (E : Int) (m : Nat) (g : Nat → Nat) (W : World) (s : Option Addr) (k cap : Nat) : Prop := (E = 0 ∧ k = m ∧ FnM W s k cap g) ∨ (E ≠ 0 ∧ s = none ∧ k = 0 ∧ cap = 0)
theorem LstR.below {E : Int} {m : Nat} {g : Nat → Nat} {W W' : World} {s : Option Addr} {k cap : Nat} (h : LstR E m g W s k cap) (hb : Below W.heap.size W W') : LstR E m g W' s k cap := by
  rcases h with ⟨h0, h1, h2⟩ | h
  · exact Or.inl ⟨h0, h1, h2.below hb⟩
  · exact Or.inr h
set_option maxRecDepth 4000 in
set_option maxHeartbeats 1000000 in
theorem Row_any (r c : Int) (sa : Option Addr) (n cap : Nat) (xs : List Nat) (i : Int) (w : World) (h : FlM w sa n cap xs) (hn : n ≤ 17592186043904) :
    Calls Try.prog 32 #[.agg #[.int .i64 r, .int .i64 c, .slice sa n cap], .int .i64 i] w fun e w' => (∃ s k l, e = .returned (.tuple #[.slice s k l, .int .i64 (spanE (chkM r c n xs) r c i 0 1 0)]) ∧ LstR (spanE (chkM r c n xs) r c i 0 1 0) c.toNat (fun t => xs.getD (i.toNat * c.toNat + t) 0) w' s k l) ∧ Below w.heap.size w w' := by
  have HB0 : Hid (Below w.heap.size w (w.alloc (MBox r c sa n cap))) := (Below.refl _ _).alloc (Nat.le_refl _) _
  have HA0 : Hid ((w.alloc (MBox r c sa n cap)).heap[w.heap.size]? = some (MBox r c sa n cap)) := nblkM _ _
  obtain ⟨V, hV⟩ : ∃ V, Hid (w.alloc (MBox r c sa n cap) = V) := ⟨_, rfl⟩
  rw [hV.out] at HB0 HA0
  have HF := hid (span_any r c sa n cap xs i 0 1 0 V (h.below HB0.out) hn (by decide) (by decide))
  have HFL := hid (h.below HB0.out)
  have hV' := hV.out
  unfold MBox at hV'
  obtain ⟨x0, x1, x2⟩ := mcells_of HA0.out
  obtain ⟨F, hF⟩ : ∃ E, Hid (spanE (chkM r c n xs) r c i 0 1 0 = E) := ⟨_, rfl⟩
  rw [hF.out] at HF ⊢
  clear h hn
  by_cases hF0 : F = 0
  · obtain ⟨hE, R, C, p, q, rfl, rfl, rfl, hq, p1, q1, l1, l2, l3, l4⟩ := span_zero (hF.out.trans hF0)
    have HPT := hid (fun W (hW : Below V.heap.size V W) => part_any R C n p 0 1 C sa cap _ W (HFL.out.below hW).fn l3 l1 l2 (by omega) (by omega))
    have HX : Hid ((C : Int).toNat = C ∧ (p : Int).toNat = p) := ⟨rfl, rfl⟩
    rw [HX.out.1, HX.out.2]
    have HC := hid l2
    subst hF0
    clear p1 q1 l1 l2 l3 l4 hE hF hq
    go_enter Try.func32, Try.ntmps32
    go_wp2_with fail
    refine HF.out.mono ?_
    rintro e w2 ⟨rfl, hb2⟩
    have HB2 := hid (HB0.out.trans (hb2.mono HB0.out.size))
    have HP2 := hid (HPT.out _ hb2)
    obtain ⟨y0, y1, y2⟩ := mcells_of (blkM HA0.out hb2)
    clear hb2
    go_wp2_with fail
    refine HP2.out.mono ?_
    rintro e w3 ⟨⟨g, o, rfl, hg, hrow, ho⟩, hb3⟩
    have HB3 := hid (HB2.out.trans (hb3.mono HB2.out.size))
    have HFN : Hid (FnM w3 (some ⟨g, 0, none⟩) (1 * C) (1 * C) (fun t => xs.getD (p * C + t) 0)) := (row_fn hrow (fun k hk => by
      have := ho 0 k (by omega) (by omega)
      simp only [Nat.zero_mul, Nat.zero_add, Nat.add_zero] at this
      exact this.2) (by have := HC.out; omega)).congr (fun k hk => by
      have := ho 0 k (by omega) (by omega)
      simp only [Nat.zero_mul, Nat.zero_add, Nat.add_zero] at this
      exact this.1)
    obtain ⟨N, hN⟩ : ∃ t, Hid (1 * C = t) := ⟨_, rfl⟩
    rw [hN.out] at HFN ⊢
    have hfl := field2_run
    clear hb3 hg hrow ho
    go_wp2_with fail
    go_ret2
    exact ⟨⟨_, _, _, rfl, Or.inl ⟨rfl, by have := hN.out; omega, HFN.out⟩⟩, HB3.out⟩
  · have hne : (F != 0) = true := by simpa using hF0
    have HN0 := hid hF0
    clear hF0
    go_enter Try.func32, Try.ntmps32
    go_wp2_with fail
    refine HF.out.mono ?_
    rintro e w2 ⟨rfl, hb2⟩
    have HB2 := hid (HB0.out.trans (hb2.mono HB0.out.size))
    clear hb2
    go_wp2_with fail
    go_ret2
    exact ⟨⟨_, _, _, rfl, Or.inr ⟨HN0.out, rfl, rfl, rfl⟩⟩, HB2.out⟩
set_option maxRecDepth 4000 in
set_option maxHeartbeats 1000000 in
theorem Col_any (r c : Int) (sa : Option Addr) (n cap : Nat) (xs : List Nat) (j : Int) (w : World) (h : FlM w sa n cap xs) (hn : n ≤ 17592186043904) :
    Calls Try.prog 35 #[.agg #[.int .i64 r, .int .i64 c, .slice sa n cap], .int .i64 j] w fun e w' => (∃ s k l, e = .returned (.tuple #[.slice s k l, .int .i64 (spanE (chkM r c n xs) r c 0 j 0 1)]) ∧ LstR (spanE (chkM r c n xs) r c 0 j 0 1) r.toNat (fun t => xs.getD (t * c.toNat + j.toNat) 0) w' s k l) ∧ Below w.heap.size w w' := by
  have HB0 : Hid (Below w.heap.size w (w.alloc (MBox r c sa n cap))) := (Below.refl _ _).alloc (Nat.le_refl _) _
  have HA0 : Hid ((w.alloc (MBox r c sa n cap)).heap[w.heap.size]? = some (MBox r c sa n cap)) := nblkM _ _
  obtain ⟨V, hV⟩ : ∃ V, Hid (w.alloc (MBox r c sa n cap) = V) := ⟨_, rfl⟩
  rw [hV.out] at HB0 HA0
  have HF := hid (span_any r c sa n cap xs 0 j 0 1 V (h.below HB0.out) hn (by decide) (by decide))
  have HFL := hid (h.below HB0.out)
  have hV' := hV.out
  unfold MBox at hV'
  obtain ⟨x0, x1, x2⟩ := mcells_of HA0.out
  obtain ⟨F, hF⟩ : ∃ E, Hid (spanE (chkM r c n xs) r c 0 j 0 1 = E) := ⟨_, rfl⟩
  rw [hF.out] at HF ⊢
  clear h hn
  by_cases hF0 : F = 0
  · obtain ⟨hE, R, C, p, q, rfl, rfl, hp, rfl, p1, q1, l1, l2, l3, l4⟩ := span_zero (hF.out.trans hF0)
    have HPT := hid (fun W (hW : Below V.heap.size V W) => part_any R C n 0 q R 1 sa cap _ W (HFL.out.below hW).fn l3 l1 l2 (by omega) (by omega))
    have HX : Hid ((R : Int).toNat = R ∧ (C : Int).toNat = C ∧ (q : Int).toNat = q) := ⟨rfl, rfl, rfl⟩
    rw [HX.out.1, HX.out.2.1, HX.out.2.2]
    have HC := hid l1
    subst hF0
    clear p1 q1 l1 l2 l3 l4 hE hF hp
    go_enter Try.func35, Try.ntmps35
    go_wp2_with fail
    refine HF.out.mono ?_
    rintro e w2 ⟨rfl, hb2⟩
    have HB2 := hid (HB0.out.trans (hb2.mono HB0.out.size))
    have HP2 := hid (HPT.out _ hb2)
    obtain ⟨y0, y1, y2⟩ := mcells_of (blkM HA0.out hb2)
    clear hb2
    go_wp2_with fail
    refine HP2.out.mono ?_
    rintro e w3 ⟨⟨g, o, rfl, hg, hrow, ho⟩, hb3⟩
    have HB3 := hid (HB2.out.trans (hb3.mono HB2.out.size))
    have HFN : Hid (FnM w3 (some ⟨g, 0, none⟩) (R * 1) (R * 1) (fun t => xs.getD (t * C + q) 0)) := (row_fn hrow (fun k hk => by
      have := ho k 0 (by omega) (by omega)
      simp only [Nat.mul_one, Nat.zero_add, Nat.add_zero] at this
      exact this.2) (by have := HC.out; omega)).congr (fun k hk => by
      have := ho k 0 (by omega) (by omega)
      simp only [Nat.mul_one, Nat.zero_add, Nat.add_zero] at this
      exact this.1)
    obtain ⟨N, hN⟩ : ∃ t, Hid (R * 1 = t) := ⟨_, rfl⟩
    rw [hN.out] at HFN ⊢
    have hfl := field2_run
    clear hb3 hg hrow ho
    go_wp2_with fail
    go_ret2
    exact ⟨⟨_, _, _, rfl, Or.inl ⟨rfl, by have := hN.out; omega, HFN.out⟩⟩, HB3.out⟩
  · have hne : (F != 0) = true := by simpa using hF0
    have HN0 := hid hF0
    clear hF0
    go_enter Try.func35, Try.ntmps35
    go_wp2_with fail
    refine HF.out.mono ?_
    rintro e w2 ⟨rfl, hb2⟩
    have HB2 := hid (HB0.out.trans (hb2.mono HB0.out.size))
    clear hb2
    go_wp2_with fail
    go_ret2
    exact ⟨⟨_, _, _, rfl, Or.inr ⟨HN0.out, rfl, rfl, rfl⟩⟩, HB2.out⟩
end Go.Proofs.Ytfkpdjieiifldaa
