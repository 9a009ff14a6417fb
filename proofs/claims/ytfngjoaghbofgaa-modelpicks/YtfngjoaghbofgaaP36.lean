
/- The document's Over, Mul and MulVec. -/
import Derived.Test.YtfngjoaghbofgaaP34
import Derived.Test.YtfngjoaghbofgaaP35
namespace Go.Proofs.Ytfngjoaghbofgaa
open Go.RowKit Go.IntWalk

set_option maxRecDepth 4000 in
set_option maxHeartbeats 1000000 in
theorem Over_any (r c : Int) (n : Nat) (sa : Option Addr) (cap : Nat) (f : Nat → Nat) (w : World) (h : FnM w sa n cap f) (hn : n ≤ 17592186043904) : Calls Try.prog 59 #[MV r c sa n cap] w fun e w' => e = .returned (.tuple #[if finF n f = true then MV r c sa n cap else MV 0 0 none 0 0, .int .i64 (if finF n f = true then 0 else 5)]) ∧ (∀ sb m k (g : Nat → Nat), FnM w sb m k g → FnM w' sb m k g) ∧ Below w.heap.size w w' := by
  obtain ⟨t1, t2, t3, t4⟩ := two_b w (MBox r c sa n cap) (MBox 0 0 none 0 0)
  have HFI := hid (rall_any sa n cap _ _ ((h.below t3).fl) hn)
  obtain ⟨V, hV⟩ : ∃ V, Hid ((w.alloc (MBox r c sa n cap)).alloc (MBox 0 0 none 0 0) = V) := ⟨_, rfl⟩
  rw [hV.out] at HFI t1 t2 t3 t4
  have HR := hid t2
  have HB := hid t3
  have HS := hid t4
  have hV' := hV.out
  obtain ⟨z0, z1, z2⟩ := mcells_of t1
  obtain ⟨r0, r1, r2⟩ := mcells_of t2
  have fz := frzM t2
  unfold MBox at hV'
  obtain ⟨F, hF⟩ : ∃ F, Hid (finF n f = F) := ⟨_, rfl⟩
  unfold finF at hF
  rw [hF.out] at HFI
  have e1 : finF n f = F := hF.out
  rw [e1]
  clear t1 t2 t3 t4 h hn e1
  cases F with
  | true =>
    rw [if_pos rfl, if_pos rfl]
    unfold MV
    go_enter Try.func59, Try.ntmps59
    go_wp2_with fail
    refine HFI.out.mono ?_
    rintro e w1 ⟨rfl, rfl⟩
    go_wp2_with fail
    refine bodyPost_ret (v := .tuple #[MV r c sa n cap, .int .i64 0]) (by simp [results, Try.results59, go_sem, r0, r1, r2, MV]) rfl ⟨rfl, fun sb m k g hg => ?_, StoM.below HB.out (by omega)⟩
    exact StoM.fn (hg.below HB.out) HR.out
  | false =>
    rw [if_neg (by decide), if_neg (by decide)]
    unfold MV
    go_enter Try.func59, Try.ntmps59
    go_wp2_with fail
    refine HFI.out.mono ?_
    rintro e w1 ⟨rfl, rfl⟩
    go_wp2_with fail
    refine bodyPost_ret (v := .tuple #[MV 0 0 none 0 0, .int .i64 5]) (by simp [results, Try.results59, go_sem, r0, r1, r2, MV]) rfl ⟨rfl, fun sb m k g hg => ?_, StoM.below HB.out (by omega)⟩
    exact StoM.fn (hg.below HB.out) HR.out
set_option maxRecDepth 4000 in
set_option maxHeartbeats 2000000 in
theorem rMulVec_any (R C n m ka kb : Nat) (sa sb : Option Addr) (f q : Nat → Nat) (w : World) (h : Gd w R C sa n ka f) (hb : FnM w sb m kb q) (hs : C = m) :
    Calls Try.prog 48 #[MV R C sa n ka, .slice sb m kb] w fun e w' => (∃ s l o, e = .returned (.slice s R l) ∧ FnM w' s R l o ∧ ∀ i, i < R → canonOf (o i) = dotM (fun k => f (i * C + k)) q C) ∧ Below w.heap.size w w' := by
  subst hs
  obtain ⟨i0, hi, hz0, hz1, hz2⟩ := info_parts info_f
  have HB0 : Hid (Below w.heap.size w (w.alloc (MBox R C sa n ka))) := (Below.refl _ _).alloc (Nat.le_refl _) _
  have HA0 : Hid ((w.alloc (MBox R C sa n ka)).heap[w.heap.size]? = some (MBox R C sa n ka)) := nblkM _ _
  have HSV : Hid ((w.alloc (MBox R C sa n ka)).heap.size = w.heap.size + 1) := World.size_alloc _ _
  obtain ⟨V, hV⟩ : ∃ V, Hid (w.alloc (MBox R C sa n ka) = V) := ⟨_, rfl⟩
  rw [hV.out] at HB0 HA0 HSV
  have hV' := hV.out
  unfold MBox at hV'
  obtain ⟨mb, hmb⟩ : ∃ t, Hid (w.heap.size = t) := ⟨_, rfl⟩
  rw [hmb.out] at HA0
  have hmb' := hmb.out
  obtain ⟨B, hB⟩ : ∃ t, Hid (V.heap.size = t) := ⟨_, rfl⟩
  have HLT : Hid (mb < B ∧ w.heap.size ≤ B) := by
    have e1 := hmb.out; have e2 := HSV.out; have e3 := hB.out
    show _ ∧ _
    omega
  have HFN := hid (h.below HB0.out).2.2.2.1
  have HFB := hid (hb.below HB0.out)
  have HROW : Hid (∀ W i, Below B V W → i < R → Calls Try.prog 68 #[.agg #[.int .i64 R, .int .i64 C, .slice sa n ka], .int .i64 (i : Nat)] W fun e w' => (∃ s l, e = .returned (.slice s C l) ∧ FnM w' s C l (fun t => f (i * C + t))) ∧ Below W.heap.size W w') := fun W i hW hi => by
    rw [← hB.out] at hW
    exact rRow_any R C i n ka sa f W (HFN.out.below hW) h.1 h.2.1 h.2.2.1 hi
  have HC12 := h.2.1
  have HDOT : Hid (∀ W s1 l1 F, Below B V W → FnM W s1 C l1 F → Calls Try.prog 67 #[.slice s1 C l1, .slice sb C kb] W fun e w' => ∃ z : Nat, e = .returned (.float .f64 z) ∧ (z < 18446744073709551616 ∧ canonOf z = dotM F q C) ∧ Below W.heap.size W w') := fun W s1 l1 F hW h1 => by
    rw [← hB.out] at hW
    exact rDot_any s1 sb C l1 kb F q W (by omega) h1 (HFB.out.below hW)
  have HM : Hid (R ≤ 12) := h.1
  unfold MV
  clear h hb HC12
  go_enter Try.func48, Try.ntmps48
  go_wp2_with fail
  go_loopw [5, 6] (fun u jv wr => ∃ (k : Nat) (o : Nat → Nat), k ≤ R ∧ jv = .int .i64 k ∧ Hid (Owns wr B u ((List.range k).map o)) ∧ Hid (Below B V wr) ∧ Hid (∃ s l, u = .slice s k l) ∧ Hid (∀ t, t < k → o t < 18446744073709551616 ∧ canonOf (o t) = dotM (fun k => f (t * C + k)) q C)) (fun _ jv _ => R - (intOf jv).toNat)
  case atStart => exact ⟨0, fun _ => 0, Nat.zero_le _, rfl, World.ownsRow_nil _ _ _ _, Below.refl _ _, ⟨none, 0, rfl⟩, fun t ht => absurd ht (Nat.not_lt_zero t)⟩
  case round =>
    obtain ⟨k, o, hk, rfl, HO, HBR, HSH, HPO⟩ := hrel
    obtain ⟨y0, y1, y2⟩ := mcells_of (w := wr) ((HBR.out.block _ HLT.out.1).trans HA0.out)
    by_cases hlt : k < R
    · have HA1 := hid (HROW.out wr k HBR.out hlt)
      have hkI : (k : Int) < (R : Int) := by omega
      have HLK := hid hlt
      have hm12 := HM.out
      clear hlt
      go_wp2_with fail
      refine HA1.out.mono ?_
      rintro e w1 ⟨⟨s1, l1, rfl, hf1⟩, hb1⟩
      have HO1 := hid (ownsq_kept HO.out hb1)
      have HB1 : Hid (Below B V w1) := HBR.out.trans (hb1.mono (by rw [← hB.out]; exact HBR.out.size))
      have HF1 := hid hf1
      clear hb1 hf1
      go_wp2_with fail
      refine (HDOT.out _ s1 l1 _ HB1.out HF1.out).mono ?_
      rintro e w1' ⟨x, rfl, hx, hb2⟩
      have hown := ownsq_kept HO1.out hb2
      have HB1' : Hid (Below B V w1') := HB1.out.trans (hb2.mono (by rw [← hB.out]; exact HB1.out.size))
      have hbw : B ≤ w1'.heap.size := by rw [← hB.out]; exact HB1'.out.size
      have HX := hid hx
      unfold Owns at hown
      rw [List.length_map, List.length_range] at hown
      clear hb2 hx
      go_wp2_with (first
        | (at_builtin; (refine wpList_append_own _ rfl _ _ 32 rfl B 23 i0 (.float .f64 0) 1 8 Try.underlying32 hi hz0 hz1 hz2 rfl (by decide) _ _ _ rfl (hown.alloc _) ⟨w1'.heap.size, 0, none⟩ 1 1 [.float .f64 x] rfl rfl ?c1 ?c2 ?c3 ?c4 ?c5 ?_)))
      case c1 =>
        intro j u hj
        match j, hj with
        | 0, hj => simp at hj; subst hj; simp [Addr.add]
      case c2 => intro u hu; simp at hu; subst hu; rfl
      case c3 => unfold maxLen; omega
      case c4 => omega
      case c5 => simp; omega
      intro v' w2 hown' hgrow _
      have HSH2 : Hid (∃ s l, v' = .slice s (k + 1) l) := by
        rcases hown'.2 with ⟨_, h0⟩ | ⟨g, l, cur, e1, _⟩
        · omega
        · exact ⟨_, _, e1⟩
      have HRG : Hid ((List.range (k + 1)).map (fun t => if t = k then x else o t) = (List.range k).map o ++ [x]) := by
        show _ = _
        rw [List.range_succ, List.map_append]
        congr 1
        · refine List.map_congr_left (fun t ht => ?_)
          rw [if_neg (by have := List.mem_range.1 ht; omega)]
        · simp
      have HO2 : Hid (Owns w2 B v' ((List.range (k + 1)).map (fun t => if t = k then x else o t))) := by
        show w2.ownsRow _ _ _ _ _ _
        rw [List.length_map, List.length_range, HRG.out, List.map_append, List.map_map]
        exact hown'
      have HPO2 : Hid (∀ t, t < k + 1 → (if t = k then x else o t) < 18446744073709551616 ∧ canonOf (if t = k then x else o t) = dotM (fun k => f (t * C + k)) q C) := fun t ht => by
        by_cases htk : t = k
        · subst htk
          rw [if_pos rfl]
          exact HX.out
        · rw [if_neg htk]
          exact HPO.out t (by omega)
      have HB2 : Hid (Below B V w2) := (HB1'.out.alloc hbw _).grown hgrow (by simp; omega) (fun t ht => (World.ownsRow.lt hown t ht).1)
      clear hown' hgrow hown HO HBR
      go_wp2
      have hl := HLK.out
      refine ⟨⟨k + 1, _, by omega, by go_num, HO2, HB2, HSH2, HPO2⟩, ?_⟩
      simp [intOf]; omega
    · obtain rfl : k = R := by omega
      obtain ⟨s, l, rfl⟩ := HSH.out
      have HRES := hid (owns_fn HO.out (fun t ht => (HPO.out t ht).1))
      have HBE : Hid (Below w.heap.size w wr) := HB0.out.trans (HBR.out.mono HLT.out.2)
      go_wp2_with fail
      go_ret
      exact ⟨⟨s, l, o, rfl, HRES.out, fun t ht => (HPO.out t ht).2⟩, HBE.out⟩
end Go.Proofs.Ytfngjoaghbofgaa
