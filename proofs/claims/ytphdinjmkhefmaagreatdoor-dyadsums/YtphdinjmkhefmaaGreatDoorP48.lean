
/- The document's Out: an exact number as a dyad. -/
import Derived.Test.YtphdinjmkhefmaaGreatDoorP47
import Derived.Test.YtphdinjmkhefmaaGreatDoorP46
namespace Go.Proofs.YtphdinjmkhefmaaGreatDoor
open Go.RowKit Go.IntWalk

theorem num_len {w : World} {q bd : Nat} {v : Int} (h : NumAt w q v bd) : bitLen v.natAbs ≤ 32 * bd := by
  obtain ⟨neg, L, h1, h2, a, cap, ho, hcap, hm, hd, hc, hn⟩ := h
  refine bitLen_le _ _ ?_
  have e : v.natAbs = natL L := by rw [← h1]; unfold intL; split <;> omega
  rw [e, ← pw32]
  exact Nat.lt_of_lt_of_le (natL_lt L hd) (Nat.pow_le_pow_right (by decide) h2)
theorem oddv_num {w : World} {q bd : Nat} {e B z : Int} (h : OddV w q e B z bd) : ∃ v : Int, NumAt w q v bd ∧ ((z = 0 ∧ v = 0 ∧ e = 0) ∨ (v % 2 = 1 ∧ ∃ k : Nat, e = B + k ∧ z = v * 2 ^ k)) := by
  rcases h with ⟨h1, h2, h3⟩ | ⟨v, k, h1, h2, h3, h4⟩
  · exact ⟨0, h2, Or.inl ⟨h1, rfl, h3⟩⟩
  · exact ⟨v, h2, Or.inr ⟨h1, k, h3, h4⟩⟩
theorem wrap_low (u d : Nat) (h : u % 4294967296 = d) : IntKind.u32.wrap ((u : Int).tmod 4294967296) = (d : Int) := by
  rw [IntKind.wrap_u32, Int.tmod_eq_emod_of_nonneg (by omega)]
  omega
theorem sgn_neg (v : Int) : sgnZ v < 0 ↔ v < 0 := by
  unfold sgnZ
  rcases Int.lt_trichotomy v 0 with h | h | h <;> split <;> (try split) <;> omega
theorem out_int {xs : List Nat} {v : Int} {N : Bool} (hM : natL xs = v.natAbs) (hN : N = decide (v < 0)) : intL N xs = v := by
  unfold intL
  rw [hM, hN]
  by_cases c : v < 0
  · rw [if_pos (decide_eq_true c)]; omega
  · rw [if_neg (by rw [decide_eq_false c]; decide)]; omega
theorem out_nil {xs : List Nat} {v : Int} {N : Bool} (hc : CanL xs) (hM : natL xs = v.natAbs) (hN : N = decide (v < 0)) (h : v = 0) : xs = [] ∧ N = false := by
  subst h
  exact ⟨(natL_zero xs hc).1 hM, by rw [hN]; rfl⟩
theorem out_val {xs : List Nat} {v z e' B : Int} {N : Bool} (hd : DigL xs) (hc : CanL xs) (hM : natL xs = v.natAbs) (hN : N = decide (v < 0)) (h : (z = 0 ∧ v = 0 ∧ e' = 0) ∨ (v % 2 = 1 ∧ ∃ k : Nat, e' = B + k ∧ z = v * 2 ^ k)) : DyV N xs e' z B := by
  refine ⟨hd, hc, ?_⟩
  rcases h with ⟨h1, h2, h3⟩ | ⟨h1, k, h2, h3⟩
  · obtain ⟨g1, g2⟩ := out_nil hc hM hN h2
    exact Or.inl ⟨h1, g1, g2, h3⟩
  · exact Or.inr ⟨by rw [hM]; omega, k, by rw [out_int hM hN]; exact h3.symm, h2⟩
theorem out_may {xs : List Nat} {v z e' B : Int} {N : Bool} (hc : CanL xs) (hM : natL xs = v.natAbs) (hN : N = decide (v < 0)) (h : (z = 0 ∧ v = 0 ∧ e' = 0) ∨ (v % 2 = 1 ∧ ∃ k : Nat, e' = B + k ∧ z = v * 2 ^ k)) (hl : xs.length ≤ 2048) (h1 : -10000 ≤ e') (h2 : e' ≤ 16400) : DyMay N xs e' := by
  rcases h with ⟨_, g2, g3⟩ | ⟨g1, _⟩
  · obtain ⟨k1, k2⟩ := out_nil hc hM hN g2
    exact Or.inl ⟨k1, k2, g3⟩
  · refine Or.inr ⟨?_, by rw [hM]; omega, hc, hl, by omega, by omega⟩
    rintro rfl
    have : natL [] = 0 := rfl
    omega
set_option maxRecDepth 4000 in
set_option maxHeartbeats 4000000 in
theorem xOut_any (p : Nat) (e B z : Int) (w : World) (h : ExV w p e B z 200) (he1 : -10000 ≤ e) (he2 : e ≤ 10000) (hT : Tab32 w) (hs : 1 < w.heap.size) :
    Calls Tryz.prog 23 #[.agg #[.pointer (some ⟨p, 0, none⟩), .int .i64 e]] w fun r w' => ∃ neg a n cap e', r = .returned (.tuple #[.agg #[.bool neg, .slice a n cap, .int .i64 e'], .int .i64 0]) ∧ DyAt w' neg a n cap e' z B ∧ Below w.heap.size w w' := by
  obtain ⟨W0, hW0⟩ : ∃ V, Hid ((w.alloc (XBox (some ⟨p, 0, none⟩) e)).alloc (DyBox false none 0 0 0) = V) := ⟨_, rfl⟩
  obtain ⟨g1, g2⟩ := two_blk w (XBox (some ⟨p, 0, none⟩) e) (DyBox false none 0 0 0)
  rw [hW0.out] at g1 g2
  have HS0 : Hid (W0.heap.size = w.heap.size + 2) := by
    show W0.heap.size = w.heap.size + 2
    rw [← hW0.out]; simp
  have HB0 : Hid (Below w.heap.size w W0) := by
    rw [← hW0.out]
    exact ((Below.refl _ _).alloc (Nat.le_refl _) _).alloc (by simp) _
  have HOD := hid (xOdd_val p 200 e B z W0 (h.below HB0.out) (by decide) (by omega) (by omega) (hT.below hs HB0.out) (Nat.lt_of_lt_of_le hs HB0.out.size))
  obtain ⟨x0, x1, _⟩ := xcells_of (show W0.heap[w.heap.size]? = some (.cells #[.pointer (some ⟨p, 0, none⟩), .int .i64 e] 34) from g1)
  have HG1 := hid g1
  have HG2 := hid g2
  unfold XBox DyBox at hW0
  clear h hT hs g1 g2
  go_enter Tryz.func23, Tryz.ntmps23
  go_wp2_with fail
  rw [hW0.out]
  refine HOD.out.mono ?_
  rintro r w1 ⟨q, e', rfl, ho, hee, hb1⟩
  have hE1 : -10000 ≤ e' := by rcases hee with h | h <;> omega
  have hE2 : e' ≤ 16400 := by rcases hee with h | h <;> omega
  have k1 : w1.heap[w.heap.size]? = some (XBox (some ⟨p, 0, none⟩) e) := by rw [hb1.block _ (by have := HS0.out; omega)]; exact HG1.out
  have k2 : w1.heap[w.heap.size + 1]? = some (DyBox false none 0 0 0) := by rw [hb1.block _ (by have := HS0.out; omega)]; exact HG2.out
  obtain ⟨v, hn1, hval⟩ := oddv_num ho
  obtain ⟨c0, c1, c2⟩ := xcells_of k1
  -- the world behind x = x.Odd()
  obtain ⟨V1, hV1⟩ : ∃ V, Hid ((w1.setCell ⟨w.heap.size, 0, none⟩ (.pointer (some ⟨q, 0, none⟩))).setCell ⟨w.heap.size, 1, none⟩ (.int .i64 e') = V) := ⟨_, rfl⟩
  have HN1 : Hid (NumAt V1 q v 201) := by rw [← hV1.out]; exact hn1.stored (hn1.ne_x k1) k1 _ _
  have HX1 : Hid (V1.heap[w.heap.size]? = some (XBox (some ⟨q, 0, none⟩) e')) := by rw [← hV1.out]; exact box_set k1
  have HD1 : Hid (V1.heap[w.heap.size + 1]? = some (DyBox false none 0 0 0)) := by rw [← hV1.out]; show (World.setCell _ _ _).heap[_]? = _; rw [box_keep (by omega)]; exact k2
  have HB1 : Hid (Below w.heap.size w V1) := by rw [← hV1.out]; exact Below.setCell (Below.setCell (HB0.out.trans (hb1.mono HB0.out.size)) (Nat.le_refl _) _) (Nat.le_refl _) _
  have HVAL := hid hval
  have hbl : (bitLen v.natAbs : Int) ≤ 6432 := by have := num_len hn1; omega
  obtain ⟨BL, hBL⟩ : ∃ b, Hid (bitLen v.natAbs = b) := ⟨_, rfl⟩
  rw [hBL.out] at hbl
  obtain ⟨y0, y1, _⟩ := xcells_of (show V1.heap[w.heap.size]? = some (.cells #[.pointer (some ⟨q, 0, none⟩), .int .i64 e'] 34) from HX1.out)
  have hV1' := hV1.out
  clear ho hee hb1 k1 k2 hn1 hval x0 x1
  go_wp2_with fail
  refine (NBitLen q v 201 _ HN1.out (by decide)).mono ?_
  rw [hBL.out]
  rintro r w2 ⟨rfl, m, rfl⟩
  have HSG : Hid (∀ W, Hid (Below V1.heap.size V1 W) → Calls Tryz.prog 35 #[.pointer (some ⟨q, 0, none⟩)] W fun r w' => r = .returned (.int .i64 (sgnZ v)) ∧ w' = W) := fun W hW => NSign q v 201 W (HN1.out.below hW.out)
  have HK1 : Hid (∀ W, Hid (Below V1.heap.size V1 W) → (W.cell? ⟨w.heap.size, 0, none⟩ = some (.pointer (some ⟨q, 0, none⟩)) ∧ W.cell? ⟨w.heap.size, 1, none⟩ = some (.int .i64 e')) ∧ Hid (Below V1.heap.size V1 W)) := fun W hW => by
    have := xcells_of ((hW.out.block _ (Array.getElem?_eq_some_iff.1 HX1.out).1).trans HX1.out)
    exact ⟨⟨this.1, this.2.1⟩, hW⟩
  have HQ0 : Hid (Below V1.heap.size V1 (V1.drewN m)) := bl_drewN _ (Below.refl _ _)
  have HSU : Hid ((V1.drewN m).heap.size = V1.heap.size) := rfl
  have HC0 : Hid (V1.heap.size ≤ V1.heap.size) := Nat.le_refl _
  obtain ⟨sg, hsg⟩ : ∃ s, Hid (sgnZ v = s) := ⟨_, rfl⟩
  rw [hsg.out] at HSG
  go_wp2_with fail
  obtain ⟨U, hU⟩ : ∃ U, Hid (V1.drewN m = U) := ⟨_, rfl⟩
  rw [hU.out] at HQ0 HSU ⊢
  have HQ1 : Hid (Below V1.heap.size V1 U.drew) := HQ0.out.drew
  have hsu : U.heap.size = V1.heap.size := HSU.out
  refine region_merge2 (fun a0 a' w' => a' = Act.put (Act.put (Act.put (Act.put (Act.put (Act.put (Act.put (Act.put a0 (some 23) (.pointer (some ⟨w.heap.size, 0, none⟩))) (some 24) (.pointer (some ⟨q, 0, none⟩))) (some 25) (.int .i64 sg)) (some 26) (.bool (decide (sg < 0)))) (some 27) (.pointer (some ⟨w.heap.size, 1, none⟩))) (some 28) (.int .i64 e')) (some 29) (.agg #[.bool (decide (sg < 0)), .slice none 0 0, .int .i64 e'])) (some 4) (.pointer (some ⟨V1.heap.size, 0, none⟩)) ∧ w' = (U.drew).alloc (.cells #[.bool (decide (sg < 0)), .slice none 0 0, .int .i64 e'] 27)) (fun HR => ?_) ?_
  · simp only [Act.put, List.setIfInBounds_toArray, List.set_cons_zero, List.set_cons_succ] at HR
    go_region_held3 (fun W => (W.cell? ⟨w.heap.size, 0, none⟩ = some (.pointer (some ⟨q, 0, none⟩)) ∧ W.cell? ⟨w.heap.size, 1, none⟩ = some (.int .i64 e')) ∧ Hid (Below V1.heap.size V1 W))
      ((refine HK1.out _ ?_; repeat' (first | with_reducible assumption | with_reducible exact HQ1 | with_reducible exact And.right (by assumption) | with_reducible refine bw_dr ?_ | with_reducible refine bw_al ?_ HC0 _ | with_reducible refine bw_st ?_ _ (by simp) _ _ _)))
      (first
        | (go_at_call 35; refine (HSG.out _ (And.right (by assumption))).mono ?_; rintro r w3 ⟨rfl, rfl⟩)
        | fail)
    all_goals exact HR.out _ _ ⟨rfl, rfl⟩
  rintro a' w3 ⟨rfl, rfl⟩
  simp only [Act.put, List.setIfInBounds_toArray, List.set_cons_zero, List.set_cons_succ]
  obtain ⟨N, hN⟩ : ∃ N, Hid (decide (sg < 0) = N) := ⟨_, rfl⟩
  rw [hN.out]
  have HB2 : Hid (Below V1.heap.size V1 ((U.drew).alloc (DyBox N none 0 0 e'))) := bw_al HQ1 HC0 _
  have HD2 : Hid (((U.drew).alloc (DyBox N none 0 0 e')).heap[V1.heap.size]? = some (DyBox N none 0 0 e')) := new_blk _ _ _ HSU.out.symm
  have HS2 : Hid (((U.drew).alloc (DyBox N none 0 0 e')).heap.size = V1.heap.size + 1) := by show ((U.drew).alloc _).heap.size = V1.heap.size + 1; simp; exact HSU.out
  obtain ⟨V2, hV2⟩ : ∃ V, Hid ((U.drew).alloc (DyBox N none 0 0 e') = V) := ⟨_, rfl⟩
  rw [hV2.out] at HB2 HD2 HS2
  unfold DyBox at hV2
  rw [hV2.out]
  have HB3 : Hid (Below V1.heap.size V1 (V2.alloc (.cells #[.bool false, .slice none 0 0] 57))) := bw_al HB2 HC0 _
  obtain ⟨y0, y1⟩ := (HK1.out _ HB3).1
  have HN3 := hid (HN1.out.below HB3.out)
  go_wp2_with fail
  refine (NAbs V2.heap.size q v 201 _ (fresh_zok V2) HN3.out (by decide)).mono ?_
  rintro r w4 ⟨rfl, hn4, hb4⟩
  obtain ⟨M, hM⟩ : ∃ M, Hid (v.natAbs = M) := ⟨_, rfl⟩
  have HML : Hid (M < 4294967296 ^ 201) := by
    obtain ⟨neg, L, h1, h2, a, cap, ho, hcap, hm, hd, hc, hn⟩ := HN1.out
    have e : v.natAbs = natL L := by rw [← h1]; unfold intL; split <;> omega
    show M < _
    rw [← hM.out, e]
    exact Nat.lt_of_lt_of_le (natL_lt L hd) (Nat.pow_le_pow_right (by decide) h2)
  rw [hM.out] at hn4
  have hsz4 : V2.heap.size < w4.heap.size := by have := hb4.size; simp at this; omega
  have HBV4 : Hid (Below w.heap.size w w4) := by
    have h1 : Below w.heap.size w (V2.alloc (.cells #[.bool false, .slice none 0 0] 57)) := HB1.out.trans (HB3.out.mono HB1.out.size)
    exact h1.trans (hb4.below h1.size (by have := HS2.out; have := HB1.out.size; omega))
  have HOI : Hid (OutI w w4 w4 V1.heap.size V2.heap.size N e' M none 0 0 M) := by
    have hrb := (Array.getElem?_eq_some_iff.1 HD1.out).1
    refine ⟨[], ?_, World.ownsRow_nil _ _ _ _, hn4.off, by show 0 + 1 * M = M; omega, fun d hd => absurd hd List.not_mem_nil, fun _ hc => absurd rfl hc, HBV4.out, ?_, Nat.le_refl _⟩
    · rw [hb4.block _ (by simp; have := HS2.out; omega) (by have := HS2.out; omega), ((Below.refl V2.heap.size V2).alloc (Nat.le_refl _) _).block _ (by have := HS2.out; omega)]
      exact HD2.out
    · rw [hb4.block _ (by simp; have := HS2.out; omega) (by have := HS2.out; omega), HB3.out.block _ hrb]
      exact HD1.out
  have HAR : Hid (w.heap.size + 1 < V1.heap.size ∧ V1.heap.size < w4.heap.size ∧ V2.heap.size < w4.heap.size ∧ w.heap.size + 1 < V2.heap.size) := by
    have hrb := (Array.getElem?_eq_some_iff.1 HD1.out).1
    have := HS2.out
    exact ⟨hrb, by omega, hsz4, by omega⟩
  obtain ⟨db, hdb⟩ : ∃ d, Hid (V1.heap.size = d) := ⟨_, rfl⟩
  obtain ⟨nb, hnb⟩ : ∃ d, Hid (V2.heap.size = d) := ⟨_, rfl⟩
  rw [hdb.out, hnb.out] at HOI HAR
  clear hn4 hb4 hsz4 hsu
  go_wp2_with fail
  rw [hdb.out, hnb.out]
  clear HB3 HN3 HB2 HD2 HS2 HSU HQ0 HQ1 HK1 HSG HC0 y0 y1
  go_loopw [] (fun wr => ∃ a k cap rest, Hid (OutI w w4 wr db nb N e' M a k cap rest)) (fun wr => match wr.cell? ⟨db, 1, none⟩ with | some (.slice _ n _) => 300 - n | _ => 0)
  case atStart => exact ⟨none, 0, 0, M, HOI⟩
  case round =>
    obtain ⟨a, k, cap, rest, HI⟩ := hrel
    have HNR : Hid (NumAt wr nb (rest : Int) 201) := by obtain ⟨_, _, _, h3, _⟩ := HI.out; exact h3.num
    obtain ⟨b0, b1, b2⟩ : wr.cell? ⟨db, 0, none⟩ = some (.bool N) ∧ wr.cell? ⟨db, 1, none⟩ = some (.slice a k cap) ∧ wr.cell? ⟨db, 2, none⟩ = some (.int .i64 e') := by obtain ⟨_, h1, _⟩ := HI.out; exact dcells_of h1
    by_cases hr0 : rest = 0
    · subst hr0
      have hsr : sgnZ ((0 : Nat) : Int) = 0 := rfl
      obtain ⟨xs, h1, h2, h3, h4, h5, h6, h7, h8, h9⟩ := HI.out
      obtain ⟨t0, t1, t2⟩ := dcells_of h8
      have fz : ∀ o, wr.frozen? ⟨w.heap.size + 1, o, none⟩ = false := fun o => by unfold DyBox at h8; simp [World.frozen?, h8]
      have HFIN : Hid (DyAt (((wr.setCell ⟨w.heap.size + 1, 0, none⟩ (.bool N)).setCell ⟨w.heap.size + 1, 1, none⟩ (.slice a k cap)).setCell ⟨w.heap.size + 1, 2, none⟩ (.int .i64 e')) N a k cap e' z B) := by
        obtain ⟨m1, m2, m3⟩ := OwnsW.mag h2
        have hbut : But (w.heap.size + 1) wr (((wr.setCell ⟨w.heap.size + 1, 0, none⟩ (.bool N)).setCell ⟨w.heap.size + 1, 1, none⟩ (.slice a k cap)).setCell ⟨w.heap.size + 1, 2, none⟩ (.int .i64 e')) := (((But.refl _ _).setCell 0 _).setCell 1 _).setCell 2 _
        have hM4 : natL xs = v.natAbs := by rw [hM.out]; omega
        have hN4 : N = decide (v < 0) := by rw [← hN.out, ← hsg.out]; exact decide_eq_decide.2 (sgn_neg v)
        refine ⟨xs, m1.symm, m2, m3.but hbut (fun b off e h0 => ?_), out_val h5 (h6 rfl) hM4 hN4 HVAL.out, out_may (h6 rfl) hM4 hN4 HVAL.out ?_ hE1 hE2⟩
        · subst e
          rcases h2.2 with ⟨e1, _⟩ | ⟨g0, c0, cur0, e1, e2, _⟩
          · cases e1
          · cases e1
            have := HAR.out
            omega
        · rw [← m1]
          have h := len_small xs 201 (h6 rfl) (by rw [hM4, hM.out]; exact HML.out)
          omega
      have HBF : Hid (Below w.heap.size w (((wr.setCell ⟨w.heap.size + 1, 0, none⟩ (.bool N)).setCell ⟨w.heap.size + 1, 1, none⟩ (.slice a k cap)).setCell ⟨w.heap.size + 1, 2, none⟩ (.int .i64 e'))) := Below.setCell (Below.setCell (Below.setCell h7 (by show w.heap.size ≤ w.heap.size + 1; omega) _) (by show w.heap.size ≤ w.heap.size + 1; omega) _) (by show w.heap.size ≤ w.heap.size + 1; omega) _
      clear h1 h2 h3 h4 h5 h6 h7 h8 h9
      go_wp2_with fail
      refine (NSign nb _ 201 _ HNR.out).mono ?_
      rw [hsr]
      rintro r w5 ⟨rfl, rfl⟩
      go_wp2
      exact bodyPost_ret (v := .tuple #[.agg #[.bool N, .slice a k cap, .int .i64 e'], .int .i64 0]) (by simp [results, Tryz.results23, go_sem, t0, t1, t2]) rfl ⟨N, a, k, cap, e', rfl, HFIN.out, HBF.out⟩
    · have hsr : sgnZ (rest : Int) = 1 := by unfold sgnZ; rw [if_neg (by omega)]; split <;> omega
      have hk : k < 201 := out_count HI.out HML.out hr0
      have HUL : Hid (∀ W, Hid (Below wr.heap.size wr W) → Calls Tryz.prog 45 #[.pointer (some ⟨nb, 0, none⟩)] W fun r w' => ∃ u : Nat, r = .returned (.int .u64 u) ∧ u < 18446744073709551616 ∧ u % 4294967296 = rest % 4294967296 ∧ w' = W) := fun W hW => NUlow nb rest 201 W (HNR.out.below hW.out)
      have HAP := hid (fun ty T => out_append HI.out HML.out hr0 HAR.out.1 HAR.out.2.1 HAR.out.2.2.1 ty T)
      obtain ⟨d, hd⟩ : ∃ d, Hid (rest % 4294967296 = d) := ⟨_, rfl⟩
      rw [hd.out] at HAP HUL
      have hdl : d < 4294967296 := by rw [← hd.out]; exact Nat.mod_lt _ (by decide)
      have HRS : Hid (∀ W a' cap', Hid (MidI w w4 W db nb N e' M a' (k + 1) cap' rest) → Calls Tryz.prog 46 #[.pointer (some ⟨nb, 0, none⟩), .pointer (some ⟨nb, 0, none⟩), .int .u64 32] W fun r w' => r = .returned (.pointer (some ⟨nb, 0, none⟩)) ∧ Hid (OutI w w4 w' db nb N e' M a' (k + 1) cap' (rest / 4294967296)) ∧ w'.cell? ⟨db, 1, none⟩ = some (.slice a' (k + 1) cap')) := fun W a' cap' h => by
        have hnum : NumAt W nb (rest : Int) 201 := by obtain ⟨_, _, _, h3, _⟩ := h.out; exact h3
        refine (NRshF nb rest 32 201 W hnum (by decide) (by decide)).mono ?_
        rintro r w' ⟨rfl, h2, h3⟩
        have ho := out_next h.out HAR.out.2.1 HAR.out.2.2.1 HAR.out.2.2.2 h2 h3
        refine ⟨rfl, ho, ?_⟩
        obtain ⟨_, g1, _⟩ := ho
        exact (dcells_of g1).2.1
      have HQ0 : Hid (Below wr.heap.size wr wr.drew) := (Below.refl _ _).drew
      have hdbw : db < wr.heap.size := by obtain ⟨_, h1, _⟩ := HI.out; exact (Array.getElem?_eq_some_iff.1 h1).1
      have b1' : (wr.alloc (.cells #[.int .u32 (d : Int)] 45)).cell? ⟨db, 1, none⟩ = some (.slice a k cap) := by rw [((Below.refl wr.heap.size wr).alloc (Nat.le_refl _) _).cell (p := ⟨db, 1, none⟩) hdbw]; exact b1
      clear hr0
      go_wp2_with fail
      refine (NSign nb _ 201 _ HNR.out).mono ?_
      rw [hsr]
      rintro r w5 ⟨rfl, rfl⟩
      go_wp2_with fail
      go_region_law (first
        | (refine step_append_w rfl _ _ rfl (.slice a k cap) (.slice (some ⟨w5.heap.size, 0, none⟩) 1 1) (by first | rfl | (simp [Act.eval]; done) | (simp [Act.eval, Act.put]; done)) (by first | rfl | (simp [Act.eval]; done) | (simp [Act.eval, Act.put]; done)) ?_; obtain ⟨a', cap', w7, hr, HM7, k0, k1⟩ := HAP.out _ _; refine ⟨a', k + 1, cap', w7, hr, ?_⟩; clear hr)
        | (go_simp; go_wp2_with (go_at_call 45; refine (HUL.out _ HQ0).mono ?_; rintro r w6 ⟨u, rfl, hu1, hu2, rfl⟩; have hu3 := wrap_low u d hu2; clear hu1 hu2)))
      all_goals
        go_wp2_with fail
        refine (HRS.out _ _ _ HM7).mono ?_
        rintro r w8 ⟨rfl, HO8, hc8⟩
        go_wp2
        refine ⟨⟨a', k + 1, cap', _, HO8⟩, ?_⟩
        rw [hc8, b1]
        show 300 - (k + 1) < 300 - k
        omega
end Go.Proofs.YtphdinjmkhefmaaGreatDoor

namespace Go.Proofs.YtphdinjmkhefmaaGreatDoor
open Go.RowKit Go.IntWalk

theorem dy_zero (w : World) (e : Int) : DyAt w false none 0 0 0 0 e := ⟨[], rfl, Nat.le_refl _, fun _ hi => absurd hi (Nat.not_lt_zero _), ⟨fun _ hd => absurd hd List.not_mem_nil, fun h => absurd rfl h, Or.inl ⟨rfl, rfl, rfl, rfl⟩⟩, Or.inl ⟨rfl, rfl, rfl⟩⟩
theorem DyAt.stored {W : World} {b : Nat} {n1 n2 : Bool} {a1 a2 : Option Addr} {k1 k2 c1 c2 : Nat} {e1 e2 z e : Int} (h : DyAt W n1 a1 k1 c1 e1 z e) (hb : W.heap[b]? = some (DyBox n2 a2 k2 c2 e2)) (x y v : Value) : DyAt (((W.setCell ⟨b, 0, none⟩ x).setCell ⟨b, 1, none⟩ y).setCell ⟨b, 2, none⟩ v) n1 a1 k1 c1 e1 z e := by
  obtain ⟨L, h1, h2, h3, h4, h5⟩ := h
  refine ⟨L, h1, h2, h3.but ((((But.refl b W).setCell 0 _).setCell 1 _).setCell 2 _) (fun b' off e h0 hc => ?_), h4, h5⟩
  obtain ⟨b2, off2, g1, _, g3⟩ := h3 0 (by omega)
  rw [e] at g1
  cases g1
  subst hc
  exact noword_dy hb _ _ g3
set_option maxRecDepth 4000 in
set_option maxHeartbeats 2000000 in
theorem is_bad (p : Nat) (e bad : Int) (w : World) (hb : bad ≠ 0) : Calls Tryz.prog 11 #[.agg #[.bool false, .slice none 0 0, .int .i64 0], .int .i64 bad, .agg #[.pointer (some ⟨p, 0, none⟩), .int .i64 e], .int .i64 bad] w fun r w' => r = .returned (.bool true) ∧ Below w.heap.size w w' := by
  have hb2 : (bad == 0) = false := by simpa using hb
  have HSM := hid (fun (W : World) => Same_dy false false none none 0 0 0 0 0 0 0 0 W (dy_zero W 0) (dy_zero W 0))
  have HB0 : Hid (Below w.heap.size w (((w.alloc (DyBox false none 0 0 0)).alloc (XBox (some ⟨p, 0, none⟩) e)).alloc (DyBox false none 0 0 0))) := (((Below.refl _ _).alloc (Nat.le_refl _) _).alloc (by simp) _).alloc (by simp; omega) _
  unfold DyBox XBox at HB0
  go_enter Tryz.func11, Tryz.ntmps11
  go_wp2_with fail
  refine (HSM.out _).mono ?_
  rintro r w1 ⟨rfl, hb1⟩
  have HB1 := hid (HB0.out.trans (hb1.mono HB0.out.size))
  clear hb1
  go_wp2
  go_ret
  exact ⟨rfl, HB1.out⟩
set_option maxRecDepth 4000 in
set_option maxHeartbeats 2000000 in
theorem is_ok (neg : Bool) (a : Option Addr) (k c p : Nat) (e' z B e : Int) (w : World) (hd : DyAt w neg a k c e' z B) (hx : ExV w p e B z 200) (he1 : -10000 ≤ e) (he2 : e ≤ 10000) (hT : Tab32 w) (hs : 1 < w.heap.size) :
    Calls Tryz.prog 11 #[.agg #[.bool neg, .slice a k c, .int .i64 e'], .int .i64 0, .agg #[.pointer (some ⟨p, 0, none⟩), .int .i64 e], .int .i64 0] w fun r w' => r = .returned (.bool true) ∧ Below w.heap.size w w' := by
  obtain ⟨g1, g2, g3⟩ := three_blk w (DyBox neg a k c e') (XBox (some ⟨p, 0, none⟩) e) (DyBox false none 0 0 0)
  have HB0 : Hid (Below w.heap.size w (((w.alloc (DyBox neg a k c e')).alloc (XBox (some ⟨p, 0, none⟩) e)).alloc (DyBox false none 0 0 0))) := (((Below.refl _ _).alloc (Nat.le_refl _) _).alloc (by simp) _).alloc (by simp; omega) _
  obtain ⟨W0, hW0⟩ : ∃ V, Hid (((w.alloc (DyBox neg a k c e')).alloc (XBox (some ⟨p, 0, none⟩) e)).alloc (DyBox false none 0 0 0) = V) := ⟨_, rfl⟩
  have HS0 : Hid (W0.heap.size = w.heap.size + 3) := by
    show W0.heap.size = w.heap.size + 3
    rw [← hW0.out]; simp
  rw [hW0.out] at g1 g3 HB0
  have HO := hid (xOut_any p e B z W0 (hx.below HB0.out) he1 he2 (hT.below hs HB0.out) (Nat.lt_of_lt_of_le hs HB0.out.size))
  have HD := hid (hd.below HB0.out)
  have HG1 := hid g1
  have HG3 := hid g3
  unfold DyBox XBox at hW0
  clear hd hx he1 he2 hT hs g1 g2 g3
  go_enter Tryz.func11, Tryz.ntmps11
  go_wp2_with fail
  rw [hW0.out]
  refine HO.out.mono ?_
  rintro r w1 ⟨n2, a2, k2, c2, e2, rfl, hd2, hb1⟩
  have q1 : w1.heap[w.heap.size]? = some (DyBox neg a k c e') := by rw [hb1.block _ (by have := HS0.out; omega)]; exact HG1.out
  have q3 : w1.heap[w.heap.size + 2]? = some (DyBox false none 0 0 0) := by rw [hb1.block _ (by have := HS0.out; omega)]; exact HG3.out
  obtain ⟨V, hV⟩ : ∃ V, Hid (((w1.setCell ⟨w.heap.size + 2, 0, none⟩ (.bool n2)).setCell ⟨w.heap.size + 2, 1, none⟩ (.slice a2 k2 c2)).setCell ⟨w.heap.size + 2, 2, none⟩ (.int .i64 e2) = V) := ⟨_, rfl⟩
  have HSM : Hid (Calls Tryz.prog 24 #[.agg #[.bool neg, .slice a k c, .int .i64 e'], .agg #[.bool n2, .slice a2 k2 c2, .int .i64 e2]] V fun r w' => r = .returned (.bool true) ∧ Below V.heap.size V w') := by
    have d1 := (HD.out.below hb1).stored q3 (.bool n2) (.slice a2 k2 c2) (.int .i64 e2)
    have d2 := hd2.stored q3 (.bool n2) (.slice a2 k2 c2) (.int .i64 e2)
    rw [hV.out] at d1 d2
    exact Same_dy _ _ _ _ _ _ _ _ _ _ _ _ V d1 d2
  have HBV : Hid (Below w.heap.size w V) := by
    rw [← hV.out]
    exact Below.setCell (Below.setCell (Below.setCell (HB0.out.trans (hb1.mono HB0.out.size)) (by show w.heap.size ≤ w.heap.size + 2; omega) _) (by show w.heap.size ≤ w.heap.size + 2; omega) _) (by show w.heap.size ≤ w.heap.size + 2; omega) _
  have v1 : V.heap[w.heap.size]? = some (DyBox neg a k c e') := by
    rw [← hV.out]
    show (World.setCell _ _ _).heap[_]? = _
    rw [set_keep (by omega), set_keep (by omega), set_keep (by omega)]
    exact q1
  have v3 : V.heap[w.heap.size + 2]? = some (DyBox n2 a2 k2 c2 e2) := by
    rw [← hV.out]
    unfold DyBox at q3 ⊢
    simp [World.setCell, Array.getElem?_modify, q3]
  obtain ⟨x0, x1, x2⟩ := dcells_of v1
  obtain ⟨y0, y1, y2⟩ := dcells_of v3
  obtain ⟨t0, t1, t2⟩ := dcells_of q3
  have fz : ∀ o, w1.frozen? ⟨w.heap.size + 2, o, none⟩ = false := fun o => by unfold DyBox at q3; simp [World.frozen?, q3]
  have hV' := hV.out
  clear hd2 hb1 q1 q3 v1 v3
  go_wp2_with fail
  refine HSM.out.mono ?_
  rintro r w2 ⟨rfl, hb2⟩
  have HB2 := hid (HBV.out.trans (hb2.mono HBV.out.size))
  clear hb2
  go_wp2
  go_ret
  exact ⟨rfl, HB2.out⟩
end Go.Proofs.YtphdinjmkhefmaaGreatDoor
