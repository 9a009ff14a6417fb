
/- The document's Square. (Written by mknag.py.) -/
import Derived.Test.YthnblidkbcficaaP35
namespace Go.Proofs.Ythnblidkbcficaa
open Go.RowKit Go.IntWalk

theorem row_fnM {W : World} {g N : Nat} {o : Nat → Nat} (h : W.rowIs g 51 N (fun k => .float .f64 (o k))) (hlt : ∀ k, k < N → o k < 18446744073709551616) (hmax : N ≤ 9223372036854775807) : FnM W (some ⟨g, 0, none⟩) N N o :=
  Or.inr ⟨g, 0, rfl, h.lt, Nat.le_refl _, hmax, fun k hk => ⟨by rw [Nat.zero_add]; exact h.cell hk, hlt k hk⟩⟩
set_option maxRecDepth 4000 in
set_option maxHeartbeats 2000000 in
theorem Square_any (r c n n2 : Nat) (sa sb : Option Addr) (ka kb : Nat) (f f2 : Nat → Nat) (w : World) (ha : FnM w sa n ka f) (hb : FnM w sb n2 kb f2) (hr : r ≤ 12) (hc : c ≤ 12) (hn : n = r * c) (hn2 : n2 = c * c) :
    Calls Try.prog 117 #[MV r c sa n ka, MV c c sb n2 kb] w fun e w' => (∃ (q : Nat) (o3 : Nat → Nat), e = .returned (MV r r (some ⟨q, 0, none⟩) (r * r) (r * r)) ∧ FnM w' (some ⟨q, 0, none⟩) (r * r) (r * r) o3 ∧ (∀ i j, i < r → j < r → o3 (i * r + j) = o3 (j * r + i)) ∧ ∃ o2 : Nat → Nat, (∀ i j, i < r → j < c → canonOf (o2 (i * c + j)) = dotM (fun k => f (i * c + k)) (fun k => f2 (k * c + j)) c) ∧ ∀ i j, i < r → j ≤ i → canonOf (o3 (i * r + j)) = dotM (fun k => o2 (i * c + k)) (fun k => f (j * c + k)) c) ∧ Below w.heap.size w w' := by
  obtain ⟨t1, t2, t3, t4, t5⟩ := three_b w (MBox r c sa n ka) (MBox c c sb n2 kb) (MBox 0 0 none 0 0)
  have hm1 : r * c ≤ 144 := Nat.mul_le_mul hr hc
  have hm2 : r * r ≤ 144 := Nat.mul_le_mul hr hr
  have HPR : Hid (∀ W, Below w.heap.size w W → Calls Try.prog 115 #[.agg #[.int .i64 r, .int .i64 c, .slice sa n ka], .agg #[.int .i64 c, .int .i64 c, .slice sb n2 kb]] W fun e w' => FillR (fun i j x => canonOf x = dotM (fun k => f (i * c + k)) (fun k => f2 (k * c + j)) c) r c (r * c) W.heap.size e w' ∧ Below W.heap.size W w') := fun W hW => Product_any r c c n n2 sa sb ka kb f f2 W (ha.below hW) (hb.below hW) hr hc hc hn hn2
  have HROW0 : Hid (∀ W i, Below w.heap.size w W → i < r → Calls Try.prog 33 #[.agg #[.int .i64 r, .int .i64 c, .slice sa n ka], .int .i64 (i : Nat)] W fun e w' => (∃ s l, e = .returned (.slice s c l) ∧ FnM w' s c l (fun t => f (i * c + t))) ∧ Below W.heap.size W w') := fun W i hW hi => rRow_any r c i n ka sa f W (ha.below hW) hr hc hn hi
  have HROM : Hid (∀ W i (g1 : Nat) (o1 : Nat → Nat), FnM W (some ⟨g1, 0, none⟩) (r * c) (r * c) o1 → i < r → Calls Try.prog 33 #[.agg #[.int .i64 r, .int .i64 c, .slice (some ⟨g1, 0, none⟩) (r * c) (r * c)], .int .i64 (i : Nat)] W fun e w' => (∃ s l, e = .returned (.slice s c l) ∧ FnM w' s c l (fun t => o1 (i * c + t))) ∧ Below W.heap.size W w') := fun W i g1 o1 h hi => rRow_any r c i (r * c) (r * c) _ o1 W h hr hc rfl hi
  have HMIR : Hid (∀ W (g : Nat) (o : Nat → Nat), FnM W (some ⟨g, 0, none⟩) (r * r) (r * r) o → Calls Try.prog 71 #[.agg #[.int .i64 r, .int .i64 r, .slice (some ⟨g, 0, none⟩) (r * r) (r * r)]] W fun e w' => MirR (fun i j x => x = o (i * r + j)) r (r * r) W.heap.size e w' ∧ Below W.heap.size W w') := fun W g o h => Mirrored_any r (r * r) _ (r * r) o W h hr rfl
  have HDOT : Hid (∀ W s1 s2 l1 l2 F G, FnM W s1 c l1 F → FnM W s2 c l2 G → Calls Try.prog 56 #[.slice s1 c l1, .slice s2 c l2] W fun e w' => ∃ z : Nat, e = .returned (.float .f64 z) ∧ (z < 18446744073709551616 ∧ canonOf z = dotM F G c) ∧ Below W.heap.size W w') := fun W s1 s2 l1 l2 F G h1 h2 => rDot_any s1 s2 c l1 l2 F G W (by omega) h1 h2
  have HPUT0 : Hid (∀ W (g x i j : Nat) (o : Nat → Nat), W.rowIs g 51 (r * r) (fun k => .float .f64 (o k)) → i < r → j < r → Calls Try.prog 30 #[.agg #[.int .i64 r, .int .i64 r, .slice (some ⟨g, 0, none⟩) (r * r) (r * r)], .int .i64 (i : Nat), .int .i64 (j : Nat), .float .f64 x] W fun e w' => e = .returned (.tuple #[]) ∧ w' = (W.alloc (MBox r r (some ⟨g, 0, none⟩) (r * r) (r * r))).setCell ⟨g, i * r + j, none⟩ (.float .f64 x)) := fun W g x i j o hW hi hj => by
    have hk := place_lt hi hj
    exact Put_any r g r _ _ i j x _ W (hW.cell hk) (hW.frozen _) hW.lt (by omega) (by omega) (by omega) hk
  have HM12 : Hid (r ≤ 12 ∧ c ≤ 12) := ⟨hr, hc⟩
  have HZ0 := hid (fun W => rRaw_any r r (by omega) (by omega) W)
  have HMF : Hid (∀ (B : Nat) (e : Ending) (w' : World) (o : Nat → Nat), MirR (fun i j x => x = o (i * r + j)) r (r * r) B e w' → ∃ (q : Nat) (o3 : Nat → Nat), e = .returned (MV r r (some ⟨q, 0, none⟩) (r * r) (r * r)) ∧ B ≤ q ∧ FnM w' (some ⟨q, 0, none⟩) (r * r) (r * r) o3 ∧ (∀ i j, i < r → j < r → o3 (i * r + j) = o3 (j * r + i)) ∧ ∀ i j, i < r → j ≤ i → o3 (i * r + j) = o (i * r + j)) := fun B e w' o h => h.fn (by omega)
  have HFF : Hid (∀ (B : Nat) (e : Ending) (w' : World), FillR (fun i j x => canonOf x = dotM (fun k => f (i * c + k)) (fun k => f2 (k * c + j)) c) r c (r * c) B e w' → ∃ (g : Nat) (o : Nat → Nat), e = .returned (MV r c (some ⟨g, 0, none⟩) (r * c) (r * c)) ∧ B ≤ g ∧ FnM w' (some ⟨g, 0, none⟩) (r * c) (r * c) o ∧ ∀ i j, i < r → j < c → canonOf (o (i * c + j)) = dotM (fun k => f (i * c + k)) (fun k => f2 (k * c + j)) c) := fun B e w' h => h.fn (by omega)
  obtain ⟨N1, hN1⟩ : ∃ p, Hid (r * c = p) := ⟨_, rfl⟩
  obtain ⟨N, hN⟩ : ∃ p, Hid (r * r = p) := ⟨_, rfl⟩
  have HNM : Hid (N ≤ 9223372036854775807) := by show _ ≤ _; rw [← hN.out]; omega
  have HPL : Hid (∀ i j, i < r → j < r → i * r + j < N) := fun i j hi hj => by rw [← hN.out]; exact place_lt hi hj
  rw [hN.out] at HPUT0 HZ0 HMIR HMF
  rw [hN1.out] at HPR HROM HFF
  rw [hN.out]
  obtain ⟨V, hV⟩ : ∃ V, Hid (((w.alloc (MBox r c sa n ka)).alloc (MBox c c sb n2 kb)).alloc (MBox 0 0 none 0 0) = V) := ⟨_, rfl⟩
  rw [hV.out] at t1 t2 t3 t4 t5
  have hV' := hV.out
  unfold MBox at hV'
  obtain ⟨p0, hp0⟩ : ∃ t, Hid (w.heap.size = t) := ⟨_, rfl⟩
  obtain ⟨p1, hp1⟩ : ∃ t, Hid (p0 + 1 = t) := ⟨_, rfl⟩
  obtain ⟨rb, hrb⟩ : ∃ t, Hid (p1 + 1 = t) := ⟨_, rfl⟩
  rw [hp0.out] at t1 t2 t3
  rw [hp1.out] at t2 t3
  rw [hrb.out] at t3
  have HT1 := hid t1
  have HT3 := hid t3
  have HT4 := hid t4
  have HT5 := hid t5
  have hp0' := hp0.out
  have hp1' := hp1.out
  have hrb' := hrb.out
  obtain ⟨x0, x1, x2⟩ := mcells_of t1
  obtain ⟨v0, v1, v2⟩ := mcells_of t2
  unfold MV
  clear t1 t2 t3 t4 t5 ha hb hr hc hn hn2 hm1 hm2
  go_enter Try.func117, Try.ntmps117
  go_wp2_with fail
  refine (HPR.out _ HT4.out).mono ?_
  rintro e w1 ⟨hfi, hb1⟩
  obtain ⟨g1, o1, rfl, hg1, hf1, hp⟩ := HFF.out _ _ _ hfi
  have hal : Below w1.heap.size w1 (w1.alloc (MBox r c (some ⟨g1, 0, none⟩) N1 N1)) := (Below.refl _ _).alloc (Nat.le_refl _) _
  obtain ⟨qb, hqb⟩ : ∃ t, Hid (w1.heap.size = t) := ⟨_, rfl⟩
  have HQB : Hid ((w1.alloc (MBox r c (some ⟨g1, 0, none⟩) N1 N1)).heap[qb]? = some (MBox r c (some ⟨g1, 0, none⟩) N1 N1)) := by show _ = _; rw [← hqb.out]; exact nblkM _ _
  have HA1 := hid (blkM (blkM HT1.out hb1) hal)
  have HR1 := hid (blkM (blkM HT3.out hb1) hal)
  have HB1 := hid ((HT4.out.trans (hb1.mono HT4.out.size)).trans (hal.mono (Nat.le_trans HT4.out.size hb1.size)))
  have HF1 := hid (hf1.below hal)
  have HP1 := hid hp
  have HS1 : Hid ((w1.alloc (MBox r c (some ⟨g1, 0, none⟩) N1 N1)).heap.size = qb + 1 ∧ rb < qb) := ⟨by rw [World.size_alloc, hqb.out], by have e1 := hp0.out; have e2 := hp1.out; have e3 := hrb.out; have e4 := hqb.out; have e5 := HT5.out; have e6 := hb1.size; omega⟩
  obtain ⟨V1, hV1⟩ : ∃ V, Hid (w1.alloc (MBox r c (some ⟨g1, 0, none⟩) N1 N1) = V) := ⟨_, rfl⟩
  rw [hV1.out] at HQB HA1 HR1 HB1 HF1 HS1
  have hW1 := hV1.out
  have hqb' := hqb.out
  unfold MBox at hW1
  obtain ⟨x0, x1, x2⟩ := mcells_of HA1.out
  have HROW : Hid (∀ W i, Below V1.heap.size V1 W → i < r → Calls Try.prog 33 #[.agg #[.int .i64 r, .int .i64 c, .slice sa n ka], .int .i64 (i : Nat)] W fun e w' => (∃ s l, e = .returned (.slice s c l) ∧ FnM w' s c l (fun t => f (i * c + t))) ∧ Below W.heap.size W w') := fun W i hW hi => HROW0.out W i (HB1.out.trans (hW.mono HB1.out.size)) hi
  have HROQ : Hid (∀ W i, Below V1.heap.size V1 W → i < r → Calls Try.prog 33 #[.agg #[.int .i64 r, .int .i64 c, .slice (some ⟨g1, 0, none⟩) N1 N1], .int .i64 (i : Nat)] W fun e w' => (∃ s l, e = .returned (.slice s c l) ∧ FnM w' s c l (fun t => o1 (i * c + t))) ∧ Below W.heap.size W w') := fun W i hW hi => HROM.out W i g1 o1 (HF1.out.below hW) hi
  obtain ⟨g, hg⟩ : ∃ t, Hid (V1.heap.size + 1 = t) := ⟨_, rfl⟩
  have HZ := hid (HZ0.out V1)
  rw [hg.out] at HZ
  have HPUT := hid (fun W x i j o => HPUT0.out W g x i j o)
  unfold MV
  clear HPUT0 HZ0 HROW0 HROM HPR HFF hfi hb1 hg1 hf1 hp hal v0 v1 v2
  go_wp2_with fail
  refine HZ.out.mono ?_
  rintro e w2 ⟨rfl, h1, h2⟩
  have hal : Below w2.heap.size w2 (w2.alloc (MBox r r (some ⟨g, 0, none⟩) N N)) := (Below.refl _ _).alloc (Nat.le_refl _) _
  have hlt : g < w2.heap.size := h1.lt
  obtain ⟨mb, hmb⟩ : ∃ t, Hid (w2.heap.size = t) := ⟨_, rfl⟩
  have HFR : Hid (Fr5 V1 (w2.alloc (MBox r r (some ⟨g, 0, none⟩) N N)) p0 qb rb mb (MBox r c sa n ka) (MBox r c (some ⟨g1, 0, none⟩) N1 N1) (MBox 0 0 none 0 0) (MBox r r (some ⟨g, 0, none⟩) N N)) := by
    refine ⟨h2.trans (hal.mono h2.size), blkM (blkM HA1.out h2) hal, blkM (blkM HQB.out h2) hal, blkM (blkM HR1.out h2) hal, ?_⟩
    rw [← hmb.out]
    exact nblkM _ _
  have HR0 : Hid ((w2.alloc (MBox r r (some ⟨g, 0, none⟩) N N)).rowIs g 51 N (fun _ => .float .f64 0)) := h1.of_block (hal.block _ hlt)
  have HNE : Hid (p0 ≠ g ∧ qb ≠ g ∧ rb ≠ g ∧ mb ≠ g ∧ V1.heap.size ≤ g) := by
    have e1 := hp0.out; have e2 := hp1.out; have e3 := hrb.out; have e4 := hmb.out; have e5 := hg.out; have e6 := HS1.out.1; have e7 := HS1.out.2
    show _ ∧ _ ∧ _ ∧ _ ∧ _
    omega
  obtain ⟨V2, hV2⟩ : ∃ V, Hid (w2.alloc (MBox r r (some ⟨g, 0, none⟩) N N) = V) := ⟨_, rfl⟩
  rw [hV2.out] at HFR HR0
  have hW2 := hV2.out
  have hmb' := hmb.out
  unfold MBox at hW2
  unfold MV
  have HKS : Hid (∀ W, Hid (Fr5 V1 W p0 qb rb mb (MBox r c sa n ka) (MBox r c (some ⟨g1, 0, none⟩) N1 N1) (MBox 0 0 none 0 0) (MBox r r (some ⟨g, 0, none⟩) N N)) → (W.cell? ⟨mb, 0, none⟩ = some (.int .i64 r) ∧ W.cell? ⟨mb, 1, none⟩ = some (.int .i64 r) ∧ W.cell? ⟨mb, 2, none⟩ = some (.slice (some ⟨g, 0, none⟩) N N) ∧ W.cell? ⟨p0, 0, none⟩ = some (.int .i64 r) ∧ W.cell? ⟨p0, 1, none⟩ = some (.int .i64 c) ∧ W.cell? ⟨p0, 2, none⟩ = some (.slice sa n ka) ∧ W.cell? ⟨qb, 0, none⟩ = some (.int .i64 r) ∧ W.cell? ⟨qb, 1, none⟩ = some (.int .i64 c) ∧ W.cell? ⟨qb, 2, none⟩ = some (.slice (some ⟨g1, 0, none⟩) N1 N1)) ∧ Hid (Fr5 V1 W p0 qb rb mb (MBox r c sa n ka) (MBox r c (some ⟨g1, 0, none⟩) N1 N1) (MBox 0 0 none 0 0) (MBox r r (some ⟨g, 0, none⟩) N N))) := fun W hW => by
    obtain ⟨a0, a1, a2⟩ := mcells_of hW.out.2.1
    obtain ⟨b0, b1, b2⟩ := mcells_of hW.out.2.2.1
    obtain ⟨m0, m1, m2⟩ := mcells_of hW.out.2.2.2.2
    exact ⟨⟨m0, m1, m2, a0, a1, a2, b0, b1, b2⟩, hW⟩
  clear h1 h2 hal HZ hlt x0 x1 x2
  go_wp2_with fail
  go_loopw [7] (fun iv wr => ∃ (i : Nat) (o : Nat → Nat), i ≤ r ∧ iv = .int .i64 i ∧ Hid (wr.rowIs g 51 N (fun k => .float .f64 (o k))) ∧ Hid (∀ k, k < N → o k < 18446744073709551616) ∧ Hid (∀ a b, a < i → b ≤ a → canonOf (o (a * r + b)) = dotM (fun k => o1 (a * c + k)) (fun k => f (b * c + k)) c) ∧ Hid (Fr5 V1 wr p0 qb rb mb (MBox r c sa n ka) (MBox r c (some ⟨g1, 0, none⟩) N1 N1) (MBox 0 0 none 0 0) (MBox r r (some ⟨g, 0, none⟩) N N))) (fun iv _ => r - (intOf iv).toNat)
  case atStart => exact ⟨0, fun _ => 0, Nat.zero_le _, rfl, HR0, fun k _ => by show (0 : Nat) < _; decide, fun a b ha => absurd ha (Nat.not_lt_zero a), HFR⟩
  case round =>
    obtain ⟨i, o, hi, rfl, HR, HL, HP, HFW⟩ := hrel
    obtain ⟨y0, y1, y2⟩ := mcells_of HFW.out.2.1
    by_cases hlt : i < r
    · have hiI : (i : Int) < (r : Int) := by omega
      have HI := hid hlt
      obtain ⟨h12a, h12b⟩ := HM12.out
      clear hlt
      go_wp2_with fail
      go_loopw [8] (fun jv wr2 => ∃ (j : Nat) (o2 : Nat → Nat), j ≤ i + 1 ∧ jv = .int .i64 j ∧ Hid (wr2.rowIs g 51 N (fun k => .float .f64 (o2 k))) ∧ Hid (∀ k, k < N → o2 k < 18446744073709551616) ∧ Hid (∀ a b, (a < i ∨ (a = i ∧ b < j)) → b ≤ a → canonOf (o2 (a * r + b)) = dotM (fun k => o1 (a * c + k)) (fun k => f (b * c + k)) c) ∧ Hid (Fr5 V1 wr2 p0 qb rb mb (MBox r c sa n ka) (MBox r c (some ⟨g1, 0, none⟩) N1 N1) (MBox 0 0 none 0 0) (MBox r r (some ⟨g, 0, none⟩) N N))) (fun jv _ => i + 1 - (intOf jv).toNat)
      case atStart => exact ⟨0, o, Nat.zero_le _, rfl, HR, HL, fun a b hab hb => HP.out a b (by rcases hab with h | ⟨_, h⟩ <;> omega) hb, HFW⟩
      case round =>
        obtain ⟨j, o2, hj, rfl, HR2, HL2, HP2, HFW2⟩ := hrel
        by_cases hl2 : j < i + 1
        · have hjI : (j : Int) ≤ (i : Int) := by omega
          have HJ := hid hl2
          have HJN : Hid (j < r) := by have := HI.out; show _ < _; omega
          have HQ0 : Hid (Fr5 V1 wr.drew p0 qb rb mb (MBox r c sa n ka) (MBox r c (some ⟨g1, 0, none⟩) N1 N1) (MBox 0 0 none 0 0) (MBox r r (some ⟨g, 0, none⟩) N N)) := HFW2.out.drew
          have HRD : Hid (wr.drew.rowIs g 51 N (fun k => .float .f64 (o2 k))) := HR2.out.of_block rfl
          clear hl2
          go_wp2_with fail
          refine wp_region_held_drew (S := fun W => (W.cell? ⟨mb, 0, none⟩ = some (.int .i64 r) ∧ W.cell? ⟨mb, 1, none⟩ = some (.int .i64 r) ∧ W.cell? ⟨mb, 2, none⟩ = some (.slice (some ⟨g, 0, none⟩) N N) ∧ W.cell? ⟨p0, 0, none⟩ = some (.int .i64 r) ∧ W.cell? ⟨p0, 1, none⟩ = some (.int .i64 c) ∧ W.cell? ⟨p0, 2, none⟩ = some (.slice sa n ka) ∧ W.cell? ⟨qb, 0, none⟩ = some (.int .i64 r) ∧ W.cell? ⟨qb, 1, none⟩ = some (.int .i64 c) ∧ W.cell? ⟨qb, 2, none⟩ = some (.slice (some ⟨g1, 0, none⟩) N1 N1)) ∧ Hid (Fr5 V1 W p0 qb rb mb (MBox r c sa n ka) (MBox r c (some ⟨g1, 0, none⟩) N1 N1) (MBox 0 0 none 0 0) (MBox r r (some ⟨g, 0, none⟩) N N))) (by kernel_rfl) (HKS.out _ HQ0) (fun hHeld => ?_)
          refine take_at 0 28 (.agg #[.int .i64 r, .int .i64 r, .slice (some ⟨g, 0, none⟩) N N]) rfl rfl (by kernel_rfl) (by kernel_rfl) (by kernel_rfl) (fun _ _ _ h => h) (Or.inl ⟨by rfl, fun w hSw => by (try dsimp only at hSw); go_simp⟩) (by assumption) ?_
          simp only [Act.put, List.setIfInBounds_toArray, List.set_cons_zero, List.set_cons_succ]
          refine take_at 1 29 (.int .i64 i) rfl rfl (by kernel_rfl) (by kernel_rfl) (by kernel_rfl) (fun _ _ _ h => h) (Or.inl ⟨by rfl, fun w hSw => by (try dsimp only at hSw); go_simp⟩) (by assumption) ?_
          simp only [Act.put, List.setIfInBounds_toArray, List.set_cons_zero, List.set_cons_succ]
          refine take_at 2 30 (.int .i64 j) rfl rfl (by kernel_rfl) (by kernel_rfl) (by kernel_rfl) (fun _ _ _ h => h) (Or.inl ⟨by rfl, fun w hSw => by (try dsimp only at hSw); go_simp⟩) (by assumption) ?_
          simp only [Act.put, List.setIfInBounds_toArray, List.set_cons_zero, List.set_cons_succ]
          refine take_at 3 31 (.agg #[.int .i64 r, .int .i64 c, .slice (some ⟨g1, 0, none⟩) N1 N1]) rfl rfl (by kernel_rfl) (by kernel_rfl) (by kernel_rfl) (fun _ _ _ h => h) (Or.inl ⟨by rfl, fun w hSw => by (try dsimp only at hSw); go_simp⟩) (by assumption) ?_
          simp only [Act.put, List.setIfInBounds_toArray, List.set_cons_zero, List.set_cons_succ]
          refine take_at 4 32 (.int .i64 i) rfl rfl (by kernel_rfl) (by kernel_rfl) (by kernel_rfl) (fun _ _ _ h => h) (Or.inl ⟨by rfl, fun w hSw => by (try dsimp only at hSw); go_simp⟩) (by assumption) ?_
          simp only [Act.put, List.setIfInBounds_toArray, List.set_cons_zero, List.set_cons_succ]
          refine take_at 6 34 (.agg #[.int .i64 r, .int .i64 c, .slice sa n ka]) rfl rfl (by kernel_rfl) (by kernel_rfl) (by kernel_rfl) (fun _ _ _ h => h) (Or.inl ⟨by rfl, fun w hSw => by (try dsimp only at hSw); go_simp⟩) (by assumption) ?_
          simp only [Act.put, List.setIfInBounds_toArray, List.set_cons_zero, List.set_cons_succ]
          refine take_at 7 35 (.int .i64 j) rfl rfl (by kernel_rfl) (by kernel_rfl) (by kernel_rfl) (fun _ _ _ h => h) (Or.inl ⟨by rfl, fun w hSw => by (try dsimp only at hSw); go_simp⟩) (by assumption) ?_
          simp only [Act.put, List.setIfInBounds_toArray, List.set_cons_zero, List.set_cons_succ]
          refine wpAnyH_ready (rs := [5]) (by kernel_rfl) (by simp) ?_
          refine AllReadyH.cons (o := _) rfl (fun K hK => ?_) AllReadyH.nil
          · go_simp
            refine (HROQ.out _ i HQ0.out.1 HI.out).mono ?_
            rintro e u1 ⟨⟨sa1, la1, rfl, hf1⟩, hb1⟩
            have HG1 := hid (HQ0.out.call hb1)
            have HFa := hid hf1
            have HR1' : Hid (u1.rowIs g 51 N (fun k => .float .f64 (o2 k))) := HRD.out.of_block (hb1.block _ HRD.out.lt)
            clear hb1 hf1
            go_wp2_with fail
            refine hK.out _ _ (HKS.out _ HG1) (fun hHeld1 => ?_)
            clear hK K
            try simp only [Act.put, List.setIfInBounds_toArray, List.set_cons_zero, List.set_cons_succ]
            refine wpAnyH_ready (rs := [8]) (by kernel_rfl) (by simp) ?_
            refine AllReadyH.cons (o := _) rfl (fun K hK => ?_) AllReadyH.nil
            go_simp
            refine (HROW.out _ j HG1.out.1 HJN.out).mono ?_
            rintro e u2 ⟨⟨sb1, lb1, rfl, hf1⟩, hb1⟩
            have HG2 := hid (HG1.out.call hb1)
            have HFb := hid hf1
            have HOa := hid (HFa.out.below hb1)
            have HR2' : Hid (u2.rowIs g 51 N (fun k => .float .f64 (o2 k))) := HR1'.out.of_block (hb1.block _ HR1'.out.lt)
            clear hb1 hf1
            go_wp2_with fail
            refine hK.out _ _ (HKS.out _ HG2) (fun hHeld2 => ?_)
            clear hK K
            try simp only [Act.put, List.setIfInBounds_toArray, List.set_cons_zero, List.set_cons_succ]
            refine wpAnyH_ready (rs := [9]) (by kernel_rfl) (by simp) ?_
            refine AllReadyH.cons (o := _) rfl (fun K hK => ?_) AllReadyH.nil
            go_simp
            refine (HDOT.out _ sa1 sb1 la1 lb1 _ _ HOa.out HFb.out).mono ?_
            rintro e u3 ⟨x, rfl, hx, hb3⟩
            have HG3 := hid (HG2.out.call hb3)
            have HX := hid hx
            have HR3 : Hid (u3.rowIs g 51 N (fun k => .float .f64 (o2 k))) := HR2'.out.of_block (hb3.block _ HR2'.out.lt)
            clear hb3 hx
            go_wp2_with fail
            refine hK.out _ _ (HKS.out _ HG3) (fun hHeld3 => ?_)
            clear hK K
            try simp only [Act.put, List.setIfInBounds_toArray, List.set_cons_zero, List.set_cons_succ]
            refine wpAnyH_ready (rs := [10]) (by kernel_rfl) (by simp) ?_
            refine AllReadyH.cons (o := _) rfl (fun K hK => ?_) AllReadyH.nil
            go_simp
            refine (HPUT.out _ x i j o2 HR3.out HI.out HJN.out).mono ?_
            rintro e u4 ⟨rfl, hu4⟩
            have hal : Below u3.heap.size u3 (u3.alloc (MBox r r (some ⟨g, 0, none⟩) N N)) := (Below.refl _ _).alloc (Nat.le_refl _) _
            have HG4 : Hid (Fr5 V1 u4 p0 qb rb mb (MBox r c sa n ka) (MBox r c (some ⟨g1, 0, none⟩) N1 N1) (MBox 0 0 none 0 0) (MBox r r (some ⟨g, 0, none⟩) N N)) := by rw [hu4]; exact (HG3.out.call hal).set HNE.out.1 HNE.out.2.1 HNE.out.2.2.1 HNE.out.2.2.2.1 HNE.out.2.2.2.2 _
            have HR4 : Hid (u4.rowIs g 51 N (fun t => .float .f64 (if t = i * r + j then x else o2 t))) := by
              rw [hu4]
              refine ((HR3.out.of_block (hal.block _ HR3.out.lt)).set (i * r + j) _).congr (fun t _ => ?_)
              by_cases ht : t = i * r + j <;> simp [ht]
            clear hal hu4
            go_wp2_with fail
            refine hK.out _ _ (HKS.out _ HG4) (fun hHeld4 => ?_)
            clear hK K
            try simp only [Act.put, List.setIfInBounds_toArray, List.set_cons_zero, List.set_cons_succ]
            refine wpAnyH_done (by kernel_rfl) ?_ _
            go_wp2_with fail
            have hj1 := HJ.out
            refine ⟨⟨j + 1, fun t => if t = i * r + j then x else o2 t, by omega, by go_num, HR4, fun k hk => ?_, fun a b hab hb => ?_, HG4⟩, ?_⟩
            · dsimp only
              by_cases h : k = i * r + j
              · rw [if_pos h]; exact HX.out.1
              · rw [if_neg h]; exact HL2.out k hk
            · have hbr : b < r := by have := HI.out; rcases hab with h | ⟨h, _⟩ <;> omega
              by_cases h : a * r + b = i * r + j
              · obtain ⟨ea, eb⟩ := place_ne hbr HJN.out h
                subst ea eb
                dsimp only
                rw [if_pos rfl]
                exact HX.out.2
              · dsimp only
                rw [if_neg h]
                refine HP2.out a b ?_ hb
                rcases hab with h1 | ⟨h1, h2⟩
                · exact Or.inl h1
                · have : b ≠ j := fun hc => h (by rw [h1, hc])
                  exact Or.inr ⟨h1, by omega⟩
            · simp [intOf]; omega
        · obtain rfl : j = i + 1 := by omega
          go_wp2_with fail
          have hi1 := HI.out
          refine ⟨⟨i + 1, o2, by omega, by go_num, HR2, HL2, fun a b ha hb => HP2.out a b (by omega) hb, HFW2⟩, ?_⟩
          simp [intOf]; omega
    · obtain rfl : i = r := by omega
      obtain ⟨m0, m1, m2⟩ := mcells_of HFW.out.2.2.2.2
      have HFO := hid (row_fnM HR.out HL.out HNM.out)
      go_wp2_with fail
      refine (HMIR.out _ g o HFO.out).mono ?_
      rintro e u5 ⟨hmi, hb5⟩
      obtain ⟨q, o3, rfl, hq, hf5, hs5, hv5⟩ := HMF.out _ _ _ _ hmi
      have HG5 := hid (HFW.out.call hb5)
      have HF5 := hid hf5
      have HS5 := hid hs5
      have HV5 : Hid (∀ a b, a < i → b ≤ a → canonOf (o3 (a * i + b)) = dotM (fun k => o1 (a * c + k)) (fun k => f (b * c + k)) c) := fun a b h1 h2 => by rw [hv5 a b h1 h2]; exact HP.out a b h1 h2
      have HRB := hid HG5.out.2.2.2.1
      obtain ⟨b0, b1, b2⟩ := mcells_of HRB.out
      have fz := frzM HRB.out
      unfold MV
      clear hmi hb5 hq hf5 hs5 hv5
      go_wp2_with fail
      exact bodyPost_ret (v := MV i i (some ⟨q, 0, none⟩) N N) (by simp [results, Try.results117, go_sem, b0, b1, b2, MV]) rfl ⟨⟨q, o3, rfl, StoM.fn HF5.out HRB.out, HS5.out, o1, HP1.out, HV5.out⟩, StoM.below (HB1.out.trans (HG5.out.1.mono HB1.out.size)) (by have := hrb.out; have := hp1.out; have := hp0.out; omega)⟩
end Go.Proofs.Ythnblidkbcficaa
