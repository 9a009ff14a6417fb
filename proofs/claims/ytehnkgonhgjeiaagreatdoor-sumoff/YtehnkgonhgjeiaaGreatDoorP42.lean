
/- Lists of numbers as the law DyadSums has them, nil among them: what dyad and the document answer. -/
import Derived.Test.YtehnkgonhgjeiaaGreatDoorP39
import Derived.Test.YtehnkgonhgjeiaaGreatDoorP23
namespace Go.Proofs.YtehnkgonhgjeiaaGreatDoor
open Go.RowKit Go.IntWalk

/-- A list of numbers; the empty one is nil. -/
def ListAt (w : World) (sa : Option Addr) (n cap : Nat) (xs : List Nat) : Prop := xs.length = n ∧ ((sa = none ∧ n = 0 ∧ cap = 0) ∨ (n ≠ 0 ∧ ∃ b, sa = some ⟨b, 0, none⟩ ∧ NumsAt w b 0 xs))
theorem ListAt.below {w w' : World} {sa : Option Addr} {n cap : Nat} {xs : List Nat} (h : ListAt w sa n cap xs) (hb : Below w.heap.size w w') : ListAt w' sa n cap xs := by
  obtain ⟨h1, h2 | ⟨h2, b, h3, h4⟩⟩ := h
  · exact ⟨h1, Or.inl h2⟩
  · exact ⟨h1, Or.inr ⟨h2, b, h3, h4.below hb⟩⟩
theorem owns_list {w : World} {base : Nat} {v : Value} {xs : List Nat} (h : Owns w base v xs) (h0 : xs = [] → v = .slice none 0 0) : ∃ sa cap, v = .slice sa xs.length cap ∧ ListAt w sa xs.length cap xs := by
  by_cases c : xs = []
  · exact ⟨none, 0, by rw [h0 c, c]; rfl, rfl, Or.inl ⟨rfl, by rw [c]; rfl, rfl⟩⟩
  · have hl : xs.length ≠ 0 := fun hc => c (List.length_eq_zero_iff.1 hc)
    obtain ⟨_, h2⟩ := h
    rcases h2 with ⟨_, h4⟩ | ⟨g, cap', cur, h3, h4, h5, h6, h7, h8, h9⟩
    · exact absurd h4 hl
    · refine ⟨some ⟨g, 0, none⟩, cap', h3, rfl, Or.inr ⟨hl, g, rfl, (Array.getElem?_eq_some_iff.1 h5).1, fun i hi => ?_⟩⟩
      have e1 : cur.toList[i]? = some (.float .f64 (xs.getD i 0)) := by
        have : (cur.toList.take (xs.length * 1))[i]? = (xs.map (Value.float .f64))[i]? := by rw [h9]
        rw [List.getElem?_take, if_pos (by omega), List.getElem?_map, List.getElem?_eq_getElem hi] at this
        rw [this, List.getD_eq_getElem?_getD, List.getElem?_eq_getElem hi]
        rfl
      rw [Nat.zero_add]
      have e2 : cur[i]? = some (.float .f64 (xs.getD i 0)) := by rw [← Array.getElem?_toList]; exact e1
      simp [World.cell?, h5, e2]
theorem Of64_list (sa : Option Addr) (sn sc : Nat) (xs : List Nat) (w : World) (hu : U64At w sa sn xs) (hn : sn ≤ 17592186043904) :
    Calls Tryz.prog 7 #[.slice sa sn sc] w fun r w' => ∃ ta cap, r = .returned (.slice ta sn cap) ∧ ListAt w' ta sn cap xs ∧ Below w.heap.size w w' := by
  refine (Of64_any sa sn sc xs w hu hn).mono ?_
  rintro r w' ⟨v, rfl, h1, h2, h3⟩
  obtain ⟨ta, cap, rfl, h4⟩ := owns_list h1 h2
  rw [hu.1] at h4 ⊢
  exact ⟨ta, cap, rfl, h4, h3⟩
set_option maxHeartbeats 1000000 in
theorem Finite_nil (w : World) : Calls Tryz.prog 49 #[.slice none 0 0] w fun r w' => r = .returned (.bool true) ∧ Below w.heap.size w w' := by
  go_enter Tryz.func49, Tryz.ntmps49
  go_wp2
  go_loopw [10] (fun i wr => i = .int .i64 0 ∧ Below w.heap.size w wr) (fun _ _ => 0)
  case atStart => exact ⟨rfl, Below.refl _ _⟩
  case round =>
    obtain ⟨rfl, hb⟩ := hrel
    go_wp2
    go_ret
    exact ⟨rfl, hb⟩
set_option maxHeartbeats 1000000 in
theorem rallfin_nil (w : World) : Calls Tryz.prog 31 #[.slice none 0 0] w fun r w' => r = .returned (.bool true) ∧ w' = w := by
  go_enter Tryz.func31, Tryz.ntmps31
  go_wp2
  go_loop [7] (fun i => i = .int .i64 0) (fun _ => 0)
  case atStart => exact rfl
  case round =>
    obtain rfl := hrel
    go_wp2
    go_ret
    exact ⟨rfl, rfl⟩
set_option maxRecDepth 8000 in
set_option maxHeartbeats 4000000 in
theorem Sum_nil (w : World) (hT3 : Tab32 w) (hs : 2 < w.heap.size) :
    Calls Tryz.prog 51 #[.slice none 0 0] w fun r w' => DyOut 0 (-1074) w.heap.size r w' ∧ Below w.heap.size w w' := by
  have HT := hid (And.intro hT3 hs)
  clear hT3 hs
  go_enter Tryz.func51, Tryz.ntmps51
  go_wp2_with fail
  refine (Finite_nil _).mono ?_
  rintro r w1 ⟨rfl, hb1⟩
  have hsz : w.heap.size < w1.heap.size := by have := hb1.size; simp at this; omega
  have HBW1 : Hid (Below w.heap.size w w1) := ((Below.refl _ _).alloc (Nat.le_refl _) _).trans (hb1.mono (by simp))
  have hbx1 : w1.heap[w.heap.size]? = some (DyBox false none 0 0 0) := by rw [hb1.block _ (by simp)]; exact new_blk _ _ _ rfl
  have HA0 := hid (acc_new w1)
  obtain ⟨W0, hW0⟩ : ∃ W0, Hid (w1.alloc (.cells Tryz.zeroCells112 112) = W0) := ⟨_, rfl⟩
  have hW0' : w1.alloc (.cells Tryz.zeroCells112 112) = W0 := hW0.out
  rw [hW0'] at HA0
  have HB0 : Hid (Below w.heap.size w W0) := by rw [← hW0.out]; exact HBW1.out.alloc HBW1.out.size _
  have HX0 : Hid (W0.heap[w.heap.size]? = some (DyBox false none 0 0 0)) := by rw [← hW0.out]; show (w1.alloc _).heap[w.heap.size]? = _; rw [((Below.refl w1.heap.size w1).alloc (Nat.le_refl _) _).block _ hsz]; exact hbx1
  have HEND : Hid (∀ wr, Hid (AccI W0 w1.heap.size 0 0 wr) → _) := fun wr h => acc_end h.out HB0.out hsz HX0.out HT.out.1 HT.out.2
  clear hb1 hbx1
  go_wp2
  go_loopw [14] (fun i wr => i = .int .i64 0 ∧ Hid (AccI W0 w1.heap.size 0 0 wr)) (fun _ _ => 0)
  case atStart => exact ⟨rfl, HA0⟩
  case round =>
    obtain ⟨rfl, HA⟩ := hrel
    go_wp2_with fail
    refine (HEND.out _ HA).mono ?_
    rintro r w3 ⟨neg', b', k', d', x', v0, v1, v2, rfl, HRT, HF3, HBB, fz, c0, c1', c2'⟩
    have HRT2 : Hid (DyRet 0 (-1074) (w.heap.size + 1) neg' b' k' d' x' w3) := DyOut.conv (i := 0) (j := kS) HRT.out (by rw [Int.zero_mul, Int.zero_mul]) (by rw [kS_is]; rfl)
    go_wp2
    exact bodyPost_ret (v := .tuple #[.agg #[.bool neg', .slice b' k' d', .int .i64 x'], .int .i64 0]) (by simp [results, Tryz.results51, go_sem, c0, c1', c2']) rfl (res_end HBB.out (Nat.le_refl _) HRT2 HF3)
set_option maxRecDepth 4000 in
set_option maxHeartbeats 4000000 in
theorem xSum_nil (w : World) : Calls Tryz.prog 38 #[.slice none 0 0] w fun r w' => ∃ p e, r = .returned (.agg #[.pointer (some ⟨p, 0, none⟩), .int .i64 e]) ∧ (-1074 ≤ e ∧ e ≤ 2000) ∧ ExV w' p e (-1074) 0 200 ∧ Below w.heap.size w w' := by
  go_enter Tryz.func38, Tryz.ntmps38
  go_wp2_with fail
  refine (xZero_any _).mono ?_
  rintro r w1 ⟨q, rfl, hn1, hb1⟩
  have HS1 : Hid (w.heap.size < w1.heap.size) := by have := hb1.size; simp at this; show w.heap.size < w1.heap.size; omega
  have HW0 : Hid (SumW w w1 (w1.alloc (XBox (some ⟨q, 0, none⟩) 0)) w1.heap.size 0 (-1074) 2000) := by
    have hal : Below w1.heap.size w1 (w1.alloc (XBox (some ⟨q, 0, none⟩) 0)) := (Below.refl _ _).alloc (Nat.le_refl _) _
    have hb0 : Below w.heap.size w w1 := ((Below.refl _ _).alloc (Nat.le_refl _) _).trans (hb1.mono (by simp))
    refine ⟨q, 0, new_blk _ _ _ rfl, ⟨0, 1074, (hn1.below hal).more (by omega), by decide, by rw [Int.zero_mul]⟩, by decide, hb0.trans (hal.mono hb0.size), ?_, by simp⟩
    rw [hal.block _ HS1.out, hb1.block _ (by simp)]
    exact new_blk _ _ _ rfl
  obtain ⟨V0, hV0⟩ : ∃ V, Hid (w1.alloc (XBox (some ⟨q, 0, none⟩) 0) = V) := ⟨_, rfl⟩
  rw [hV0.out] at HW0
  unfold XBox at hV0
  clear hn1 hb1
  go_wp2_with fail
  rw [hV0.out]
  obtain ⟨sb, hsb⟩ : ∃ sb, Hid (w1.heap.size = sb) := ⟨_, rfl⟩
  rw [hsb.out] at HW0 HS1 ⊢
  go_loopw [9] (fun i wr => i = .int .i64 0 ∧ Hid (SumW w w1 wr sb 0 (-1074) 2000)) (fun _ _ => 0)
  case atStart => exact ⟨rfl, HW0⟩
  case round =>
    obtain ⟨rfl, HS⟩ := hrel
    obtain ⟨p, e, s1, s2, s3, s4, s5, s6⟩ := id HS.out
    obtain ⟨y0, y1, y2⟩ := xcells_of s1
    obtain ⟨t0, t1, t2⟩ := xcells_of s5
    have HX := hid (show ExV _ p e (-1074) 0 200 ∧ (-1074 ≤ e ∧ e ≤ 2000) from ⟨s2, s3⟩)
    have HB := hid s4
    have HR := hid s5
    clear s1 s2 s3 s4 s5 s6
    go_wp2
    exact bodyPost_ret (v := .agg #[.pointer (some ⟨p, 0, none⟩), .int .i64 e]) (by simp [results, Tryz.results38, go_sem, t0, t1]) rfl ⟨p, e, rfl, HX.out.2, HX.out.1.stored HR.out _ _, Below.setCell (Below.setCell HB.out (Nat.le_refl _) _) (Nat.le_refl _) _⟩
theorem fin_iff (xs : List Nat) (hb : ∀ x ∈ xs, x < 18446744073709551616) (h : allFin xs = true) : FinL xs := by
  intro i hi
  have hx : xs.getD i 0 ∈ xs := by rw [List.getD_eq_getElem?_getD, List.getElem?_eq_getElem hi]; exact List.getElem_mem hi
  refine ⟨hb _ hx, ?_⟩
  have h2 := allFin_take xs i hi
  have h3 : allFin (xs.take (i + 1)) = true := by
    apply Classical.byContradiction
    intro c
    have c' : allFin (xs.take (i + 1)) = false := by revert c; cases allFin (xs.take (i + 1)) <;> simp
    rw [allFin_false xs (i + 1) c'] at h
    cases h
  rw [h3] at h2
  have h4 : (expOf (xs.getD i 0) == 2047) = false := by revert h2; cases (expOf (xs.getD i 0) == 2047) <;> simp
  have h5 : expOf (xs.getD i 0) ≠ 2047 := by simpa using h4
  have hlt := hb _ hx
  apply Classical.byContradiction
  intro c
  apply h5
  unfold expOf canonOf
  split <;> omega
theorem bit_iff (xs : List Nat) (hb : ∀ x ∈ xs, x < 18446744073709551616) : BitL xs := by
  intro i hi
  have hx : xs.getD i 0 ∈ xs := by rw [List.getD_eq_getElem?_getD, List.getElem?_eq_getElem hi]; exact List.getElem_mem hi
  exact hb _ hx
/-- dyad's Sum of a list. -/
theorem Sum_list (sa : Option Addr) (n cap : Nat) (xs : List Nat) (w : World) (hl : ListAt w sa n cap xs) (hb : ∀ x ∈ xs, x < 18446744073709551616) (hn : n ≤ 17592186043904) (hT : Tab w) (hg : 3 < w.heap.size) (hT3 : Tab32 w) (hs : 2 < w.heap.size) :
    Calls Tryz.prog 51 #[.slice sa n cap] w fun r w' => ∃ neg a k c e' E, r = .returned (.tuple #[.agg #[.bool neg, .slice a k c, .int .i64 e'], .int .i64 E]) ∧ (allFin xs = true → E = 0 ∧ DyAt w' neg a k c e' (sumSv xs n) (-1074)) ∧ (allFin xs = false → E = 4 ∧ neg = false ∧ a = none ∧ k = 0 ∧ c = 0 ∧ e' = 0) ∧ Below w.heap.size w w' := by
  obtain ⟨rfl, h⟩ := hl
  rcases h with ⟨rfl, h0, rfl⟩ | ⟨h0, b, rfl, hm⟩
  · have hx : xs = [] := List.length_eq_zero_iff.1 h0
    subst hx
    refine (Sum_nil w hT3 hs).mono ?_
    rintro r w' ⟨ho, hb'⟩
    obtain ⟨neg', a', n', cap', e', rfl, hr⟩ := ho.ret
    exact ⟨neg', a', n', cap', e', 0, rfl, fun _ => ⟨rfl, hr.at⟩, fun h => (by cases h), hb'⟩
  · by_cases c : allFin xs = true
    · refine (Sum_fin xs b 0 cap w hm (fin_iff xs hb c) (by omega) hT hg hT3 hs).mono ?_
      rintro r w' ⟨ho, hb'⟩
      obtain ⟨neg', a', n', cap', e', rfl, hr⟩ := ho.ret
      exact ⟨neg', a', n', cap', e', 0, rfl, fun _ => ⟨rfl, hr.at⟩, fun h => (by rw [c] at h; cases h), hb'⟩
    · have c' : allFin xs = false := by revert c; cases allFin xs <;> simp
      refine (Sum_bad xs b 0 cap w hm (bit_iff xs hb) c' (by omega)).mono ?_
      rintro r w' ⟨rfl, hb'⟩
      exact ⟨false, none, 0, 0, 0, 4, rfl, fun h => absurd h c, fun _ => ⟨rfl, rfl, rfl, rfl, rfl, rfl⟩, hb'⟩
/-- The document's. -/
theorem rall_list (sa : Option Addr) (n cap : Nat) (xs : List Nat) (w : World) (hl : ListAt w sa n cap xs) (hb : ∀ x ∈ xs, x < 18446744073709551616) (hn : n ≤ 17592186043904) :
    Calls Tryz.prog 31 #[.slice sa n cap] w fun r w' => r = .returned (.bool (allFin xs)) ∧ w' = w := by
  obtain ⟨rfl, h⟩ := hl
  rcases h with ⟨rfl, h0, rfl⟩ | ⟨h0, b, rfl, hm⟩
  · have hx : xs = [] := List.length_eq_zero_iff.1 h0
    subst hx
    exact rallfin_nil w
  · exact rallfin_any xs b 0 cap w hm.2 (bit_iff xs hb) (by omega)
theorem xSum_list (sa : Option Addr) (n cap : Nat) (xs : List Nat) (w : World) (hl : ListAt w sa n cap xs) (hb : ∀ x ∈ xs, x < 18446744073709551616) (hn : n ≤ 17592186043904) (hf : allFin xs = true) :
    Calls Tryz.prog 38 #[.slice sa n cap] w fun r w' => ∃ p e, r = .returned (.agg #[.pointer (some ⟨p, 0, none⟩), .int .i64 e]) ∧ (-1074 ≤ e ∧ e ≤ 2000) ∧ ExV w' p e (-1074) (sumSv xs n) 200 ∧ Below w.heap.size w w' := by
  obtain ⟨rfl, h⟩ := hl
  rcases h with ⟨rfl, h0, rfl⟩ | ⟨h0, b, rfl, hm⟩
  · have hx : xs = [] := List.length_eq_zero_iff.1 h0
    subst hx
    exact xSum_nil w
  · exact xSum_fin xs b 0 cap w hm (fin_iff xs hb hf) hn
end Go.Proofs.YtehnkgonhgjeiaaGreatDoor
