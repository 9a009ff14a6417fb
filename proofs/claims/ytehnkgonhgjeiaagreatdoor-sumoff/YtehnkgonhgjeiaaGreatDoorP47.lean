
/- sum's notFinite: a list's infinities and NaNs, by slices.Clone and slices.DeleteFunc. -/
import Derived.Test.YtehnkgonhgjeiaaGreatDoorP46
import Derived.Deep.OwnRows
import Derived.Lib.SliceRun
import Derived.Maps.AppendAt
import Derived.Test.YtehnkgonhgjeiaaGreatDoorP40
namespace Go.Proofs.YtehnkgonhgjeiaaGreatDoor
open Go.RowKit Go.IntWalk

def nfB (x : Nat) : Bool := expOf x == 2047
def badL (xs : List Nat) : List Nat := xs.filter nfB
theorem badL_snoc (xs : List Nat) (x : Nat) : badL (xs ++ [x]) = badL xs ++ (if nfB x = true then [x] else []) := by
  unfold badL
  rw [List.filter_append]
  congr 1
  by_cases h : nfB x = true
  · rw [if_pos h]; simp [h]
  · rw [if_neg h]; simp [h]
theorem allFin1 (x : Nat) : allFin [x] = !nfB x := by unfold allFin nfB; simp
/-- Numbers in a row of one's own, some of them told. -/
def RowF (W : World) (g cap : Nat) (o : Nat → Nat) : Prop := W.rowIs g 25 cap (fun j => .float .f64 (o j))
theorem owns_row {w : World} {base : Nat} {v : Value} {xs : List Nat} (h : Owns w base v xs) (h0 : xs ≠ []) : ∃ g cap cur, v = .slice (some ⟨g, 0, none⟩) xs.length cap ∧ base ≤ g ∧ xs.length ≤ cap ∧ cap ≤ maxLen ∧ w.heap[g]? = some (.cells cur 25 (0, 0)) ∧ cur.size = cap ∧ ∀ i, i < xs.length → cur[i]? = some (.float .f64 (xs.getD i 0)) := by
  rcases h.2 with ⟨_, hn⟩ | ⟨g, cap, cur, rfl, h1, h2, h3, h4, h5, h6⟩
  · exact absurd (List.length_eq_zero_iff.1 hn) h0
  · refine ⟨g, cap, cur, rfl, h1, h3, h4, h2, by omega, fun i hi => ?_⟩
    have : (cur.toList.take (xs.length * 1))[i]? = (xs.map (Value.float .f64))[i]? := by rw [h6]
    rw [List.getElem?_take, if_pos (by omega), List.getElem?_map, List.getElem?_eq_getElem hi] at this
    rw [← Array.getElem?_toList, this, List.getD_eq_getElem?_getD, List.getElem?_eq_getElem hi]
    rfl
theorem row_cell (W : World) (g : Nat) (cur : Array Value) (h : W.heap[g]? = some (.cells cur 25 (0, 0))) (i : Nat) : W.cell? ⟨g, i, none⟩ = cur[i]? ∧ W.frozen? ⟨g, i, none⟩ = false := by
  simp [World.cell?, World.frozen?, h]
theorem row_set (W : World) (g i : Nat) (v : Value) (cur : Array Value) (h : W.heap[g]? = some (.cells cur 25 (0, 0))) : (W.setCell ⟨g, i, none⟩ v).heap[g]? = some (.cells (cur.setIfInBounds i v) 25 (0, 0)) := by
  simp [World.setCell, Array.getElem?_modify, h]
theorem below_cells {B : Nat} {a : World} (g : Nat) (hg : B ≤ g) : ∀ (vs : List Value) (o : Nat) (w : World), Below B a w → Below B a (w.setCells g o vs)
  | [], _, _, h => h
  | v :: r, o, _, h => below_cells g hg r (o + 1) _ (h.setCell (p := ⟨g, o, none⟩) hg v)
set_option maxHeartbeats 1000000 in
theorem fin1_any (x : Nat) (w : World) (hx : x < 18446744073709551616) : Calls Tryz.prog 96 #[.float .f64 x] w fun r w' => r = .returned (.bool (!nfB x)) ∧ Below w.heap.size w w' := by
  have HF : Hid (∀ W b, b < W.heap.size → W.heap[b]? = some (.cells #[.float .f64 x] 25) → Calls Tryz.prog 49 #[.slice (some ⟨b, 0, none⟩) 1 1] W fun r w' => r = .returned (.bool (!nfB x)) ∧ Below W.heap.size W w') := fun W b hb hc => by
    have := Finite_any [x] b 0 1 W hb (fun i hi => by
      match i, hi with
      | 0, _ => simp [World.cell?, hc]) (fun i hi => by match i, hi with | 0, _ => exact hx) (by simp)
    rw [allFin1] at this
    exact this
  clear hx
  obtain ⟨B, hB⟩ : ∃ B, Hid ((!nfB x) = B) := ⟨_, rfl⟩
  rw [hB.out] at HF ⊢
  go_enter Tryz.func96, Tryz.ntmps96
  go_wp2_with fail
  refine (HF.out _ _ (by simp) (new_blk _ _ _ rfl)).mono ?_
  rintro r w1 ⟨rfl, hb1⟩
  have HB1 := hid (((Below.refl w.heap.size w).alloc (Nat.le_refl _) _).trans (hb1.mono (by simp)))
  clear hb1
  go_wp2
  go_ret
  exact ⟨rfl, HB1.out⟩
set_option maxHeartbeats 1000000 in
theorem Clone_some (b off cap : Nat) (xs : List Nat) (hn : xs.length ≤ 4096) (w : World) (hc : ∀ j, j < xs.length → w.cell? ⟨b, off + j, none⟩ = some (.float .f64 (xs.getD j 0))) :
    Calls Tryz.prog 95 #[.slice (some ⟨b, off, none⟩) xs.length cap] w fun r w' => ∃ v, r = .returned v ∧ Owns w' w.heap.size v xs ∧ Below w.heap.size w w' := by
  obtain ⟨i0, hi, hz0, hz1, hz2⟩ := info_parts info_f
  have heq : ∀ W : World, (binOp .eql 23 (.slice (some ⟨b, off, none⟩) xs.length cap) (.slice none 0 0)).run Tryz.prog W = .ok (.bool false) W := fun W => Lib.run_eql_slice_nil W 23 25 _ _ _ _ _ Tryz.underlying23
  have HC := hid hc
  have HO0 := hid (World.ownsRow_made (base := w.heap.size) (e := 25) (size := 1) w #[] 0 (Nat.le_refl _) (Nat.zero_le _) rfl)
  have hown := HO0.out
  clear hc
  go_enter Tryz.func95, Tryz.ntmps95
  go_wp2_with (first
    | (at_builtin; (refine wpList_append_own _ rfl _ _ 23 rfl w.heap.size 25 i0 (.float .f64 0) 1 8 Tryz.underlying23 hi hz0 hz1 hz2 rfl (by decide) _ _ _ rfl hown ⟨b, off, none⟩ xs.length cap (xs.map (Value.float .f64)) rfl ?c0 ?c1 ?c2 ?c3 ?c4 ?c5 ?_)))
  case c0 => rw [List.length_map]; omega
  case c1 =>
    intro j u hj
    have hadd : (⟨b, off, none⟩ : Addr).add j = ⟨b, off + j, none⟩ := by unfold Addr.add; split <;> simp_all
    have hj2 : j < xs.length := by
      have := (List.getElem?_eq_some_iff.1 hj).1
      simpa using this
    rw [hadd]
    refine Lib.cell?_alloc_some _ ?_
    rw [HC.out j hj2]
    rw [List.getElem?_map, List.getElem?_eq_getElem hj2] at hj
    rw [List.getD_eq_getElem?_getD, List.getElem?_eq_getElem hj2]
    exact hj
  case c2 =>
    intro u hu
    obtain ⟨y, _, rfl⟩ := List.mem_map.1 hu
    rfl
  case c3 => unfold maxLen; omega
  case c4 => omega
  case c5 => simp
  intro v' w1 hown' hgrow _
  have HO1 : Hid (Owns w1 w.heap.size v' xs) := by
    show w1.ownsRow _ _ _ _ _ _
    exact hown'
  have HB1 : Hid (Below w.heap.size w w1) := ((Below.refl w.heap.size w).alloc (Nat.le_refl _) _).grown hgrow (by simp) (fun k hk => (World.ownsRow.lt hown k hk).1)
  clear hown' hgrow hown HO0
  go_wp2
  go_ret
  exact ⟨_, rfl, HO1.out, HB1.out⟩
set_option maxHeartbeats 2000000 in
/-- The first finite number's place. -/
theorem Index_any (g n cap : Nat) (xs : List Nat) (hx : ∀ x ∈ xs, x < 18446744073709551616) (hl : xs.length = n) (hn : n ≤ 4096) (w : World) (hg : g < w.heap.size) (hc : ∀ j, j < n → w.cell? ⟨g, j, none⟩ = some (.float .f64 (xs.getD j 0))) :
    Calls Tryz.prog 138 #[.slice (some ⟨g, 0, none⟩) n cap, .func (.func 96) #[] #[]] w fun r w' => ∃ i : Int, r = .returned (.int .i64 i) ∧ ((i = -1 ∧ ∀ j, j < n → nfB (xs.getD j 0) = true) ∨ (∃ k : Nat, i = (k : Int) ∧ k < n ∧ nfB (xs.getD k 0) = false ∧ ∀ j, j < k → nfB (xs.getD j 0) = true)) ∧ Below w.heap.size w w' := by
  have HX : Hid (∀ j, j < n → xs.getD j 0 < 18446744073709551616) := fun j hj => hx _ (mem_get xs j (by omega))
  have HC := hid hc
  clear hx hc hl
  go_enter Tryz.func138, Tryz.ntmps138
  go_wp2_with fail
  go_loopw [8] (fun i wr => ∃ k : Nat, k ≤ n ∧ i = .int .i64 k ∧ Hid (∀ j, j < k → nfB (xs.getD j 0) = true) ∧ Hid (Below w.heap.size w wr)) (fun i _ => n - (intOf i).toNat)
  case atStart => exact ⟨0, Nat.zero_le _, rfl, fun j hj => absurd hj (Nat.not_lt_zero j), Below.refl _ _⟩
  case round =>
    obtain ⟨k, hk, rfl, HZ, HB⟩ := hrel
    by_cases hlt : k < n
    · have hck : wr.cell? ⟨g, k, none⟩ = some (.float .f64 (xs.getD k 0)) := (HB.out.cell (p := ⟨g, k, none⟩) hg).trans (HC.out k hlt)
      have HF := hid (fun W => fin1_any (xs.getD k 0) W (HX.out k hlt))
      obtain ⟨x, hxx⟩ : ∃ x, Hid (xs.getD k 0 = x) := ⟨_, rfl⟩
      rw [hxx.out] at hck HF
      have hkI : (k : Int) < (n : Int) := by omega
      have hk0 : (0 : Int) ≤ (k : Int) := by omega
      by_cases hf : nfB x = true
      · rw [hf] at HF
        have HFF := hid hf
        clear hf
        go_wp2_with fail
        refine (HF.out _).mono ?_
        rintro r w1 ⟨rfl, hb1⟩
        have HB1 := hid (HB.out.trans (hb1.mono HB.out.size))
        clear hb1
        go_wp2
        refine ⟨⟨k + 1, by omega, by go_num, fun j hj => ?_, HB1⟩, ?_⟩
        · by_cases hjk : j < k
          · exact HZ.out j hjk
          · rw [show j = k by omega, hxx.out]; exact HFF.out
        · simp [intOf]; omega
      · have hf' : nfB x = false := by revert hf; cases nfB x <;> simp
        rw [hf'] at HF
        have HFF := hid hf'
        clear hf hf'
        go_wp2_with fail
        refine (HF.out _).mono ?_
        rintro r w1 ⟨rfl, hb1⟩
        have HB1 := hid (HB.out.trans (hb1.mono HB.out.size))
        clear hb1
        go_wp2
        go_ret
        exact ⟨_, rfl, Or.inr ⟨k, rfl, hlt, by rw [hxx.out]; exact HFF.out, HZ.out⟩, HB1.out⟩
    · obtain rfl : k = n := by omega
      go_wp2
      go_ret
      exact ⟨_, rfl, Or.inl ⟨rfl, HZ.out⟩, HB.out⟩
theorem badL_all (xs : List Nat) (h : ∀ j, j < xs.length → nfB (xs.getD j 0) = true) : badL xs = xs := by
  unfold badL
  rw [List.filter_eq_self]
  intro x hx
  obtain ⟨i, hi, rfl⟩ := List.getElem_of_mem hx
  have := h i hi
  rw [List.getD_eq_getElem?_getD, List.getElem?_eq_getElem hi] at this
  simpa using this
/-- While numbers are deleted: what was kept, what is to come. -/
def DelI (W : World) (g cap n i j : Nat) (xs : List Nat) : Prop := ∃ cur : Array Value, W.heap[g]? = some (.cells cur 25 (0, 0)) ∧ cur.size = cap ∧ i = (badL (xs.take j)).length ∧ (∀ t, t < i → cur[t]? = some (.float .f64 ((badL (xs.take j)).getD t 0))) ∧ (∀ t, j ≤ t → t < n → cur[t]? = some (.float .f64 (xs.getD t 0)))
end Go.Proofs.YtehnkgonhgjeiaaGreatDoor

namespace Go.Proofs.YtehnkgonhgjeiaaGreatDoor
open Go.RowKit Go.IntWalk

theorem bad_take (xs : List Nat) (j : Nat) (h : j < xs.length) : badL (xs.take (j + 1)) = badL (xs.take j) ++ (if nfB (xs.getD j 0) = true then [xs.getD j 0] else []) := by
  rw [take_next xs j h, badL_snoc]
theorem bad_len (xs : List Nat) (j : Nat) : (badL (xs.take j)).length ≤ j := by
  unfold badL
  refine Nat.le_trans (List.length_filter_le _ _) ?_
  rw [List.length_take]
  omega
theorem bad_first (xs : List Nat) (k : Nat) (hk : k < xs.length) (h : ∀ j, j < k → nfB (xs.getD j 0) = true) (hf : nfB (xs.getD k 0) = false) : badL (xs.take (k + 1)) = xs.take k := by
  rw [bad_take xs k hk, if_neg (by rw [hf]; decide), List.append_nil]
  exact badL_all _ (fun j hj => by
    rw [List.length_take] at hj
    rw [get_take xs k j (by omega)]
    exact h j (by omega))
theorem get_snocS (l : List Nat) (x : Nat) : (l ++ [x]).getD l.length 0 = x := by
  rw [List.getD_eq_getElem?_getD, List.getElem?_append_right (Nat.le_refl _), Nat.sub_self]
  rfl
theorem get_leftS (l : List Nat) (x t : Nat) (h : t < l.length) : (l ++ [x]).getD t 0 = l.getD t 0 := by
  rw [List.getD_eq_getElem?_getD, List.getD_eq_getElem?_getD, List.getElem?_append_left h]
/-- A finite number is passed over. -/
theorem DelI.skip {W W' : World} {g cap n i j : Nat} {xs : List Nat} (h : DelI W g cap n i j xs) (hj : j < xs.length) (hf : nfB (xs.getD j 0) = false) (hb : W'.heap[g]? = W.heap[g]?) : DelI W' g cap n i (j + 1) xs := by
  obtain ⟨cur, h1, h2, h3, h4, h5⟩ := h
  have e : badL (xs.take (j + 1)) = badL (xs.take j) := by rw [bad_take xs j hj, if_neg (by rw [hf]; decide), List.append_nil]
  exact ⟨cur, hb.trans h1, h2, by rw [e]; exact h3, by rw [e]; exact h4, fun t ht1 ht2 => h5 t (by omega) ht2⟩
/-- Another one is kept. -/
theorem DelI.keep {W W' : World} {g cap n i j : Nat} {xs : List Nat} (h : DelI W g cap n i j xs) (hj : j < xs.length) (hij : i < j) (hcap : j < cap) (hf : nfB (xs.getD j 0) = true) (hb : W'.heap[g]? = W.heap[g]?) : DelI (W'.setCell ⟨g, i, none⟩ (.float .f64 (xs.getD j 0))) g cap n (i + 1) (j + 1) xs := by
  obtain ⟨cur, h1, h2, h3, h4, h5⟩ := h
  have e : badL (xs.take (j + 1)) = badL (xs.take j) ++ [xs.getD j 0] := by rw [bad_take xs j hj, if_pos hf]
  refine ⟨cur.setIfInBounds i (.float .f64 (xs.getD j 0)), row_set W' g i _ cur (hb.trans h1), by simpa using h2, by rw [e, List.length_append, ← h3]; rfl, fun t ht => ?_, fun t ht1 ht2 => ?_⟩
  · rw [Array.getElem?_setIfInBounds, e]
    by_cases c : i = t
    · subst c
      rw [if_pos rfl, if_pos (by omega), h3, get_snocS]
    · rw [if_neg c, h4 t (by omega), get_leftS _ _ t (by omega)]
  · rw [Array.getElem?_setIfInBounds, if_neg (by omega)]
    exact h5 t (by omega) ht2
theorem zero_fl : ∀ w, (zeroValue 25).run Tryz.prog w = .ok (.float .f64 0) w := fun w => by
  obtain ⟨i0, hi, hz0, _, _⟩ := info_parts info_f
  simp [zeroValue, typeInfo, hi, hz0]
set_option maxHeartbeats 4000000 in
theorem Delete_any (g n cap B : Nat) (xs : List Nat) (hx : ∀ x ∈ xs, x < 18446744073709551616) (hl : xs.length = n) (hn : n ≤ 4096) (hcap : n ≤ cap) (hB : B ≤ g) (w : World) (hBw : B ≤ w.heap.size) (cur : Array Value) (hg : w.heap[g]? = some (.cells cur 25 (0, 0))) (hsz : cur.size = cap) (hcur : ∀ i, i < n → cur[i]? = some (.float .f64 (xs.getD i 0))) :
    Calls Tryz.prog 94 #[.slice (some ⟨g, 0, none⟩) n cap, .func (.func 96) #[] #[]] w fun r w' => r = .returned (.slice (some ⟨g, 0, none⟩) (badL xs).length cap) ∧ (∀ i, i < (badL xs).length → w'.cell? ⟨g, i, none⟩ = some (.float .f64 ((badL xs).getD i 0))) ∧ g < w'.heap.size ∧ Below B w w' := by
  have hglt := (Array.getElem?_eq_some_iff.1 hg).1
  have HI := hid (Index_any g n cap xs hx hl hn w hglt (fun j hj => by rw [(row_cell w g cur hg j).1]; exact hcur j hj))
  have HX : Hid (∀ j, j < n → xs.getD j 0 < 18446744073709551616) := fun j hj => hx _ (mem_get xs j (by omega))
  have HL := hid hl
  have HG := hid hg
  have HCU := hid hcur
  have HSZ := hid hsz
  have hst := fstoreS
  have HBA := hid (badL_all xs)
  clear hx hl hg hcur hsz
  go_enter Tryz.func94, Tryz.ntmps94
  go_wp2_with fail
  refine HI.out.mono ?_
  rintro r w1 ⟨i, rfl, hi | ⟨k, hi, hk, hkf, hkb⟩, hb1⟩
  · obtain ⟨rfl, hall⟩ := hi
    have e := HBA.out (fun j hj => hall j (by have := HL.out; omega))
    have HB1 := hid (hb1.mono hBw)
    have HG1 : Hid (w1.heap[g]? = some (.cells cur 25 (0, 0))) := (hb1.block g hglt).trans HG.out
    have HE := hid e
    clear hb1 hall e
    go_wp2
    go_ret
    refine ⟨by rw [HE.out, HL.out]; rfl, fun i hi => ?_, (Array.getElem?_eq_some_iff.1 HG1.out).1, HB1.out⟩
    rw [HE.out] at hi ⊢
    rw [(row_cell w1 g cur HG1.out i).1]
    exact HCU.out i (by have := HL.out; omega)
  · subst hi
    have hne : ((k : Int) == -1) = false := by simp
    have HB1 := hid (hb1.mono hBw)
    have HD1 : Hid (DelI w1 g cap n k (k + 1) xs) := by
      have e := bad_first xs k (by rw [HL.out]; exact hk) hkb hkf
      have hlt : (xs.take k).length = k := by rw [List.length_take, HL.out]; omega
      refine ⟨cur, (hb1.block g hglt).trans HG.out, HSZ.out, by rw [e, hlt], fun t ht => ?_, fun t ht1 ht2 => HCU.out t ht2⟩
      rw [e, get_take xs k t ht]
      exact HCU.out t (by omega)
    have hkw : IntKind.i64.wrap ((k : Int) + 1) = ((k + 1 : Nat) : Int) := by rw [IntWalk.i64_in _ (by omega)]; omega
    have HK := hid hk
    clear hb1 hkf hkb
    go_wp2_with fail
    go_loopw [5, 6] (fun a b wr => ∃ i0 j0 : Nat, a = .int .i64 i0 ∧ b = .int .i64 j0 ∧ i0 < j0 ∧ j0 ≤ n ∧ Hid (DelI wr g cap n i0 j0 xs) ∧ Hid (Below B w wr)) (fun _ b _ => n - (intOf b).toNat)
    case atStart => exact ⟨k, k + 1, rfl, by go_num, by omega, by omega, HD1, HB1⟩
    case round =>
      obtain ⟨i0, j0, rfl, rfl, hij, hjn, HD, HB⟩ := hrel
      have hi0 : (0 : Int) ≤ (i0 : Int) := by omega
      have hj0 : (0 : Int) ≤ (j0 : Int) := by omega
      have hin : (i0 : Int) < (n : Int) := by omega
      by_cases hlt : j0 < n
      · have hjI : (j0 : Int) < (n : Int) := by omega
        have HD' := HD.out
        obtain ⟨cj, k1, k2, k3, k4, k5⟩ := HD'
        have hck : wr.cell? ⟨g, j0, none⟩ = some (.float .f64 (xs.getD j0 0)) := by rw [(row_cell wr g cj k1 j0).1]; exact k5 j0 (Nat.le_refl _) hlt
        have HWG := hid (Array.getElem?_eq_some_iff.1 k1).1
        have HF := hid (fun W => fin1_any (xs.getD j0 0) W (HX.out j0 hlt))
        have HCI : Hid (∃ u, cj[i0]? = some u) := ⟨cj[i0]'(by omega), Array.getElem?_eq_getElem _⟩
        have HKJ := hid k1
        clear k1 k2 k3 k4 k5
        by_cases hf : nfB (xs.getD j0 0) = true
        · have HKP := hid (fun W' (hb : W'.heap[g]? = wr.heap[g]?) => HD.out.keep (W' := W') (by rw [HL.out]; exact hlt) hij (by omega) hf hb)
          rw [hf] at HF
          obtain ⟨x, hxx⟩ : ∃ x, Hid (xs.getD j0 0 = x) := ⟨_, rfl⟩
          rw [hxx.out] at hck HF HKP
          clear hf
          go_wp2_with fail
          refine (HF.out _).mono ?_
          rintro r w2 ⟨rfl, hb2⟩
          have hblk : w2.heap[g]? = wr.heap[g]? := hb2.block g HWG.out
          have HKW := hid (HKP.out w2 hblk)
          have HB2 : Hid (Below B w (w2.setCell ⟨g, i0, none⟩ (.float .f64 x))) := (HB.out.trans (hb2.mono (by have := HB.out.size; omega))).setCell (p := ⟨g, i0, none⟩) hB _
          obtain ⟨u, hu⟩ := HCI.out
          have c1 : w2.cell? ⟨g, i0, none⟩ = some u := by rw [(row_cell w2 g cj (hblk.trans HKJ.out) i0).1]; exact hu
          have c2 := (row_cell w2 g cj (hblk.trans HKJ.out) i0).2
          clear hb2 hblk hu
          go_wp2
          refine ⟨⟨i0 + 1, j0 + 1, by go_num, by go_num, by omega, by omega, HKW, HB2⟩, ?_⟩
          simp [intOf]; omega
        · have hf' : nfB (xs.getD j0 0) = false := by revert hf; cases nfB (xs.getD j0 0) <;> simp
          have HKP := hid (fun W' (hb : W'.heap[g]? = wr.heap[g]?) => HD.out.skip (W' := W') (by rw [HL.out]; exact hlt) hf' hb)
          rw [hf'] at HF
          obtain ⟨x, hxx⟩ : ∃ x, Hid (xs.getD j0 0 = x) := ⟨_, rfl⟩
          rw [hxx.out] at hck HF
          clear hf hf'
          go_wp2_with fail
          refine (HF.out _).mono ?_
          rintro r w2 ⟨rfl, hb2⟩
          have HKW := hid (HKP.out w2 (hb2.block g HWG.out))
          have HB2 : Hid (Below B w w2) := HB.out.trans (hb2.mono (by have := HB.out.size; omega))
          clear hb2
          go_wp2
          refine ⟨⟨i0, j0 + 1, rfl, by go_num, by omega, by omega, HKW, HB2⟩, ?_⟩
          simp [intOf]; omega
      · obtain rfl : n = j0 := by omega
        have HD' := HD.out
        obtain ⟨cj, k1, k2, k3, k4, k5⟩ := HD'
        rw [List.take_of_length_le (by rw [HL.out]; exact Nat.le_refl _)] at k3 k4
        have hcl := Lib.run_clear_slice (P := Tryz.prog) wr 23 25 0 (.float .f64 0) Tryz.underlying23 zero_fl rfl rfl g i0 (n - i0) (cap - i0) (by omega) (fun t ht => by rw [(row_cell wr g cj k1 (i0 + t)).1, Array.getElem?_eq_getElem (by omega)]; rfl) (fun t _ => (row_cell wr g cj k1 (i0 + t)).2)
        have HE : Hid (∀ t, t < i0 → (wr.setCells g i0 (List.replicate (n - i0) (.float .f64 0))).cell? ⟨g, t, none⟩ = some (.float .f64 ((badL xs).getD t 0))) := fun t ht => by
          rw [World.cell?_setCells_out g _ i0 wr ⟨g, t, none⟩ (fun _ _ => Or.inl ht), (row_cell wr g cj k1 t).1]
          exact k4 t ht
        have HB2 : Hid (Below B w (wr.setCells g i0 (List.replicate (n - i0) (.float .f64 0)))) := below_cells g hB _ _ _ HB.out
        have HG2 : Hid (g < (wr.setCells g i0 (List.replicate (n - i0) (.float .f64 0))).heap.size) := by
          have h3 := (below_cells (B := g) (a := wr) g (Nat.le_refl _) (List.replicate (n - i0) (.float .f64 0)) i0 wr (Below.refl _ _)).size
          have h4 := (Array.getElem?_eq_some_iff.1 k1).1
          show g < _
          omega
        obtain ⟨V, hV⟩ : ∃ X, Hid (wr.setCells g i0 (List.replicate (n - i0) (.float .f64 0)) = X) := ⟨_, rfl⟩
        rw [hV.out] at hcl HE HB2 HG2
        have j1 : i0 ≤ n := by omega
        have j2 : i0 ≤ cap := by omega
        have j3 : (i0 : Int) ≤ (n : Int) := by omega
        have j4 : (i0 : Int) ≤ (cap : Int) := by omega
        have j5 : (n : Int) ≤ (cap : Int) := by omega
        have j6 : ¬ cap = i0 := by omega
        have HK3 := hid k3
        clear k1 k2 k3 k4 k5
        go_wp2
        go_ret
        exact ⟨by rw [← HK3.out]; rfl, fun i hi => HE.out i (by rw [HK3.out]; exact hi), HG2.out, HB2.out⟩
set_option maxHeartbeats 1000000 in
/-- sum's notFinite of a list that isn't empty. -/
theorem notFinite_any (b off n cap : Nat) (xs : List Nat) (hx : ∀ x ∈ xs, x < 18446744073709551616) (hl : xs.length = n) (h0 : n ≠ 0) (hn : n ≤ 4096) (w : World) (hc : ∀ j, j < n → w.cell? ⟨b, off + j, none⟩ = some (.float .f64 (xs.getD j 0))) :
    Calls Tryz.prog 50 #[.slice (some ⟨b, off, none⟩) n cap] w fun r w' => ∃ g c2, r = .returned (.slice (some ⟨g, 0, none⟩) (badL xs).length c2) ∧ FltAt w'.heap.size w' (.slice (some ⟨g, 0, none⟩) (badL xs).length c2) (badL xs) ∧ Below w.heap.size w w' := by
  subst hl
  have HC := hid (Clone_some b off cap xs hn w hc)
  have hne : xs ≠ [] := fun h => h0 (by rw [h]; rfl)
  have HD : Hid (∀ W v, Below w.heap.size w W → Owns W w.heap.size v xs → Calls Tryz.prog 94 #[v, .func (.func 96) #[] #[]] W fun r w' => ∃ g c2, r = .returned (.slice (some ⟨g, 0, none⟩) (badL xs).length c2) ∧ Hid (FltAt w'.heap.size w' (.slice (some ⟨g, 0, none⟩) (badL xs).length c2) (badL xs)) ∧ Below w.heap.size W w') := fun W v hW ho => by
    obtain ⟨g, cap2, cur, rfl, h1, h2, h3, h4, h5, h6⟩ := owns_row ho hne
    refine (Delete_any g xs.length cap2 w.heap.size xs hx rfl hn h2 h1 W hW.size cur h4 h5 h6).mono ?_
    rintro r w' ⟨rfl, k1, k2, k3⟩
    exact ⟨g, cap2, rfl, .inr ⟨g, 0, cap2, rfl, k2, fun j hj => by rw [Nat.zero_add]; exact k1 j hj⟩, k3⟩
  obtain ⟨n, hnn⟩ : ∃ n, Hid (xs.length = n) := ⟨_, rfl⟩
  obtain ⟨m, hm⟩ : ∃ m, Hid ((badL xs).length = m) := ⟨_, rfl⟩
  rw [hnn.out] at HC ⊢
  rw [hm.out] at HD ⊢
  clear hx h0 hn hc hne
  go_enter Tryz.func50, Tryz.ntmps50
  go_wp2_with fail
  refine HC.out.mono ?_
  rintro r w1 ⟨v, rfl, ho, hb1⟩
  have HB1 := hid hb1
  have HO := hid ho
  clear hb1 ho
  go_wp2_with fail
  refine (HD.out _ _ HB1.out HO.out).mono ?_
  rintro r w2 ⟨g, c2, rfl, HF, hb2⟩
  have HB2 := hid (HB1.out.trans hb2)
  clear hb2
  go_wp2
  go_ret
  exact ⟨g, c2, rfl, HF.out, HB2.out⟩
/-- The exact sum, rounded once; the error's number. -/
def exV (xs : List Nat) (n : Nat) : Nat := if 4096 < n then 0 else if allFin xs = true then exactN xs n else sumC (badL xs)
def exE (n : Nat) : Int := if 4096 < n then 2 else 0
theorem badL_mem (xs : List Nat) (hx : ∀ x ∈ xs, x < 18446744073709551616) : ∀ x ∈ badL xs, x < 18446744073709551616 := fun x h => hx x (List.mem_filter.1 h).1
theorem badL_le (xs : List Nat) : (badL xs).length ≤ xs.length := List.length_filter_le _ _
set_option maxHeartbeats 1000000 in
theorem Exact_any (sa : Option Addr) (n cap : Nat) (xs : List Nat) (w : World) (hl : ListAt w sa n cap xs) (hb : ∀ x ∈ xs, x < 18446744073709551616) (hn : n ≤ 17592186043904) (hT : Tab w) (hg : 3 < w.heap.size) (hT3 : Tab32 w) (hs : 2 < w.heap.size) :
    Calls Tryz.prog 9 #[.slice sa n cap] w fun r w' => r = .returned (.tuple #[.float .f64 (exV xs n), .int .i64 (exE n)]) ∧ Below w.heap.size w w' := by
  by_cases h1 : 4096 < n
  · unfold exV exE
    rw [if_pos h1, if_pos h1]
    have hI : (4096 : Int) < (n : Int) := by omega
    clear hl hb hn hT hg hT3 hs h1
    go_enter Tryz.func9, Tryz.ntmps9
    go_wp2
    go_ret2
    exact ⟨rfl, Below.refl _ _⟩
  · by_cases h2 : allFin xs = true
    · have := Exact_fin sa n cap xs w hl hb (by omega) h2 hT hg hT3 hs
      unfold exV exE
      rw [if_neg h1, if_neg h1, if_pos h2]
      exact this
    · have h2' : allFin xs = false := by revert h2; cases allFin xs <;> simp
      unfold exV exE
      rw [if_neg h1, if_neg h1, if_neg h2]
      have hI : (n : Int) ≤ 4096 := by omega
      have HF := hid (Finite_list sa n cap xs w hl hb hn)
      rw [h2'] at HF
      obtain ⟨hl1, hl2⟩ := hl
      rcases hl2 with ⟨_, h0, _⟩ | ⟨h0, b, rfl, hm⟩
      · have hx : xs = [] := List.length_eq_zero_iff.1 (by omega)
        rw [hx] at h2'
        cases h2'
      · have HN : Hid (∀ W, Below w.heap.size w W → Calls Tryz.prog 50 #[.slice (some ⟨b, 0, none⟩) n cap] W fun r w' => ∃ g c2, r = .returned (.slice (some ⟨g, 0, none⟩) (badL xs).length c2) ∧ Hid (FltAt w'.heap.size w' (.slice (some ⟨g, 0, none⟩) (badL xs).length c2) (badL xs)) ∧ Below W.heap.size W w') := fun W hW => by
          refine (notFinite_any b 0 n cap xs hb hl1 h0 (by omega) W (fun j hj => by rw [hW.cell (p := ⟨b, 0 + j, none⟩) hm.1]; exact hm.2 j (by omega))).mono ?_
          rintro r w' ⟨g, c2, rfl, k1, k2⟩
          exact ⟨g, c2, rfl, k1, k2⟩
        have HLF : Hid (∀ W g c2, Hid (FltAt W.heap.size W (.slice (some ⟨g, 0, none⟩) (badL xs).length c2) (badL xs)) → Calls Tryz.prog 13 #[.slice (some ⟨g, 0, none⟩) (badL xs).length c2] W fun r w' => r = .returned (.float .f64 (sumC (badL xs))) ∧ Below W.heap.size W w') := fun W g c2 h => Left_any _ _ c2 (badL xs) (badL_mem xs hb) (by have := badL_le xs; omega) W h.out
        obtain ⟨m, hmm⟩ : ∃ m, Hid ((badL xs).length = m) := ⟨_, rfl⟩
        obtain ⟨S, hS⟩ : ∃ m, Hid (sumC (badL xs) = m) := ⟨_, rfl⟩
        rw [hmm.out] at HN HLF
        rw [hS.out] at HLF ⊢
        clear hb hn hT hg hT3 hs h1 h2 h2' hl1 h0 hm
        go_enter Tryz.func9, Tryz.ntmps9
        go_wp2_with fail
        refine HF.out.mono ?_
        rintro r w1 ⟨rfl, hb1⟩
        have HB1 := hid hb1
        clear hb1
        go_wp2_with fail
        refine (HN.out _ HB1.out).mono ?_
        rintro r w2 ⟨g, c2, rfl, HFL, hb2⟩
        have HB2 := hid (HB1.out.trans (hb2.mono HB1.out.size))
        clear hb2
        go_wp2_with fail
        refine (HLF.out _ _ _ HFL).mono ?_
        rintro r w3 ⟨rfl, hb3⟩
        have HB3 := hid (HB2.out.trans (hb3.mono HB2.out.size))
        clear hb3
        go_wp2
        go_ret2
        exact ⟨rfl, HB3.out⟩
end Go.Proofs.YtehnkgonhgjeiaaGreatDoor

namespace Go.Proofs.YtehnkgonhgjeiaaGreatDoor
open Go.RowKit Go.IntWalk

set_option maxHeartbeats 2000000 in
theorem rMinus_some (b off cap : Nat) (xs : List Nat) (hx : ∀ x ∈ xs, x < 18446744073709551616) (hreach : xs.length ≤ 17592186043904) (w : World) (hc : ∀ j, j < xs.length → w.cell? ⟨b, off + j, none⟩ = some (.float .f64 (xs.getD j 0))) :
    Calls Tryz.prog 46 #[.slice (some ⟨b, off, none⟩) xs.length cap] w fun e W' => e = .returned (.bool (minusB xs)) ∧ W' = w := by
  have HX := hid hx
  have HC := hid hc
  have HM := hid (minus_all xs)
  have HST := hid (minus_stop xs)
  clear hx hc
  obtain ⟨N, hN⟩ : ∃ N, Hid (xs.length = N) := ⟨_, rfl⟩
  rw [hN.out] at hreach HC HM HST ⊢
  obtain ⟨M, hM⟩ : ∃ M, Hid (minusB xs = M) := ⟨_, rfl⟩
  rw [hM.out] at HM HST ⊢
  go_enter Tryz.func46, Tryz.ntmps46
  go_wp2_with fail
  go_loopw [7] (fun i wr => ∃ k : Nat, k ≤ N ∧ i = .int .i64 k ∧ Hid (∀ j, j < k → xs.getD j 0 = 9223372036854775808) ∧ wr = w) (fun i _ => N - (intOf i).toNat)
  case atStart => exact ⟨0, Nat.zero_le _, rfl, fun j hj => absurd hj (Nat.not_lt_zero j), rfl⟩
  case round =>
    obtain ⟨k, hk, rfl, HZ, rfl⟩ := hrel
    by_cases hlt : k < N
    · have hck := HC.out k hlt
      have HXK : Hid (xs.getD k 0 < 18446744073709551616) := HX.out _ (mem_get xs k (by rw [hN.out]; exact hlt))
      have HSK := hid (HST.out k hlt)
      obtain ⟨x, hx⟩ : ∃ x, Hid (xs.getD k 0 = x) := ⟨_, rfl⟩
      rw [hx.out] at hck HXK HSK
      have hkI : (k : Int) < (N : Int) := by omega
      have hk0 : (0 : Int) ≤ (k : Int) := by omega
      have ho := order_zeroS x HXK.out
      have HSB := hid (fun (V : World) => signbit_S x V HXK.out)
      by_cases hz : x % 9223372036854775808 = 0
      · rw [decide_eq_true hz] at ho
        by_cases hs : 9223372036854775808 ≤ x
        · rw [decide_eq_true hs] at HSB
          have HE : Hid (x = 9223372036854775808) := by have := HXK.out; show x = _; omega
          clear hz hs
          go_wp2_with fail
          refine (HSB.out _).mono ?_
          rintro r w1 ⟨rfl, rfl⟩
          go_wp2
          refine ⟨⟨k + 1, by omega, by go_num, fun j hj => ?_, trivial⟩, ?_⟩
          · by_cases hjk : j < k
            · exact HZ.out j hjk
            · rw [show j = k by omega, hx.out]; exact HE.out
          · simp [intOf]; omega
        · rw [decide_eq_false hs] at HSB
          have HE : Hid (M = false) := HSK.out (by omega)
          clear hz hs
          go_wp2_with fail
          refine (HSB.out _).mono ?_
          rintro r w1 ⟨rfl, rfl⟩
          go_wp2
          go_ret
          exact ⟨ret_boolS HE.out.symm, rfl⟩
      · rw [decide_eq_false hz] at ho
        have HE : Hid (M = false) := HSK.out (by omega)
        clear hz
        go_wp2
        go_ret
        exact ⟨ret_boolS HE.out.symm, rfl⟩
    · obtain rfl : k = N := by omega
      have HE := HM.out HZ.out
      go_wp2
      go_ret
      exact ⟨ret_boolS (by rw [HE]), rfl⟩
set_option maxHeartbeats 1000000 in
theorem rMinus_nil (w : World) : Calls Tryz.prog 46 #[.slice none 0 0] w fun e W' => e = .returned (.bool false) ∧ W' = w := by
  go_enter Tryz.func46, Tryz.ntmps46
  go_wp2_with fail
  go_loopw [7] (fun i wr => i = .int .i64 0 ∧ wr = w) (fun _ _ => 0)
  case atStart => exact ⟨rfl, rfl⟩
  case round =>
    obtain ⟨rfl, rfl⟩ := hrel
    go_wp2
    go_ret
    exact ⟨rfl, rfl⟩
theorem rMinus_any (a : Option Addr) (len cap : Nat) (xs : List Nat) (hx : ∀ x ∈ xs, x < 18446744073709551616) (hreach : xs.length ≤ 17592186043904) (w : World) (hI : FltAt w.heap.size w (.slice a len cap) xs) :
    Calls Tryz.prog 46 #[.slice a len cap] w fun e W' => e = .returned (.bool (minusB xs)) ∧ W' = w := by
  rcases hI with ⟨h1, rfl⟩ | ⟨b, off, c, h1, hb, hc⟩
  · cases h1
    exact rMinus_nil w
  · cases h1
    exact rMinus_some b off cap xs hx hreach w hc
theorem nfB_iff (x : Nat) : nfB x = !decide (x % 9223372036854775808 < 9218868437227405312) := exp_iff x
theorem no_gt (x : Nat) (hx : x < 18446744073709551616) (h : x % 9223372036854775808 < 9218868437227405312) : (FloatKind.f64.format.order x 9218868437227405311 == some .gt) = false := by
  rw [order_eq x 9218868437227405311 hx (by decide) (by omega) (by decide)]
  have h1 : sv x ≤ sv 9218868437227405311 := by
    have e1 : sv 9218868437227405311 = (nv 9218868437227405311 : Int) := by unfold sv; rw [if_neg (by decide)]
    have e2 : sv x ≤ (nv (x % 9223372036854775808) : Int) := by unfold sv; split <;> omega
    have e3 : nv (x % 9223372036854775808) ≤ nv 9218868437227405311 := by
      rcases Nat.lt_or_eq_of_le (show x % 9223372036854775808 ≤ 9218868437227405311 by omega) with k | k
      · exact Nat.le_of_lt (nv_lt k)
      · rw [k]; exact Nat.le_refl _
    omega
  have h2 : compare (sv x) (sv 9218868437227405311) ≠ .gt := by
    intro c
    have := Int.compare_eq_gt.1 c
    omega
  cases c : compare (sv x) (sv 9218868437227405311) with
  | gt => exact absurd c h2
  | lt => rfl
  | eq => rfl
theorem fin_no (x : Nat) (hx : x < 18446744073709551616) (h : nfB x = false) : nanB x = false ∧ infB x 1 = false ∧ infB x (-1) = false := by
  rw [nfB_iff] at h
  have h1 : x % 9223372036854775808 < 9218868437227405312 := by
    apply Classical.byContradiction
    intro c
    rw [decide_eq_false c] at h
    cases h
  refine ⟨?_, ?_, ?_⟩
  · unfold nanB
    rw [order_self x hx, decide_eq_false (by omega)]
  · unfold infB
    rw [if_pos rfl]
    exact no_gt x hx h1
  · unfold infB
    rw [if_neg (by decide)]
    refine no_gt _ ?_ (by rw [xor_mod]; exact h1)
    have := Nat.xor_lt_two_pow (x := x) (y := 9223372036854775808) (n := 64) (by omega) (by decide)
    exact this
theorem any_bad (p : Nat → Bool) : ∀ (xs : List Nat), (∀ x ∈ xs, nfB x = false → p x = false) → xs.any p = (badL xs).any p
  | [], _ => rfl
  | x :: t, h => by
    have ih := any_bad p t (fun y hy => h y (by simp [hy]))
    unfold badL at ih ⊢
    rw [List.any_cons, ih, List.filter_cons]
    cases c : nfB x with
    | true => simp
    | false => rw [h x (by simp) c]; simp
theorem bad_spc (xs : List Nat) (hx : ∀ x ∈ xs, x < 18446744073709551616) : ∀ p ∈ (badL xs).map canonOf, Spc p := fun p hp => by
  obtain ⟨x, h1, rfl⟩ := List.mem_map.1 hp
  obtain ⟨h2, h3⟩ := List.mem_filter.1 h1
  rw [nfB_iff] at h3
  have h4 : ¬ x % 9223372036854775808 < 9218868437227405312 := fun c => by rw [decide_eq_true c] at h3; cases h3
  have hlt := hx x h2
  rcases canon_is x hlt with ⟨n1, e1⟩ | ⟨n1, e1⟩
  · rw [e1]; exact Or.inl rfl
  · rw [e1]
    unfold NaNW at n1
    have : x = 9218868437227405312 ∨ x = 18442240474082181120 := by omega
    rcases this with rfl | rfl
    · exact Or.inr (Or.inl rfl)
    · exact Or.inr (Or.inr rfl)
theorem spec_bad (xs : List Nat) (hx : ∀ x ∈ xs, x < 18446744073709551616) : (spec3 (naL xs) (upL xs) (dnL xs)).1 = sumC (badL xs) ∧ (badL xs ≠ [] → (spec3 (naL xs) (upL xs) (dnL xs)).2 = true) ∧ (badL xs = [] → (spec3 (naL xs) (upL xs) (dnL xs)).2 = false) := by
  have e1 : naL xs = naL (badL xs) := any_bad nanB xs (fun x h c => (fin_no x (hx x h) c).1)
  have e2 : upL xs = upL (badL xs) := any_bad (fun z => infB z 1) xs (fun x h c => (fin_no x (hx x h) c).2.1)
  have e3 : dnL xs = dnL (badL xs) := any_bad (fun z => infB z (-1)) xs (fun x h c => (fin_no x (hx x h) c).2.2)
  rw [e1, e2, e3]
  obtain ⟨k1, k2, k3⟩ := spc_told (badL xs) _ rfl (badL_mem xs hx) (bad_spc xs hx)
  rw [sumC_canon] at k1
  refine ⟨k1, fun h => k2 (fun c => h (List.map_eq_nil_iff.1 c)), fun h => k3 (by rw [h]; rfl)⟩
theorem bad_nil (xs : List Nat) : (allFin xs = true → badL xs = []) ∧ (allFin xs = false → badL xs ≠ []) := by
  have e : allFin xs = true ↔ badL xs = [] := by
    unfold allFin badL nfB
    rw [List.all_eq_true, List.filter_eq_nil_iff]
    constructor
    · intro h x hx c
      have := h x hx
      rw [c] at this
      cases this
    · intro h x hx
      have := h x hx
      simpa using this
  exact ⟨e.1, fun h c => by rw [e.2 c] at h; cases h⟩
set_option maxHeartbeats 2000000 in
theorem rExact_any (sa : Option Addr) (n cap : Nat) (xs : List Nat) (w : World) (hl : ListAt w sa n cap xs) (hb : ∀ x ∈ xs, x < 18446744073709551616) (hn : n ≤ 17592186043904) (hT3 : Tab32 w) (hs : 2 < w.heap.size) :
    Calls Tryz.prog 8 #[.slice sa n cap] w fun r w' => r = .returned (.tuple #[.float .f64 (exV xs n), .int .i64 (exE n)]) ∧ Below w.heap.size w w' := by
  by_cases h1 : 4096 < n
  · unfold exV exE
    rw [if_pos h1, if_pos h1]
    have hI : (4096 : Int) < (n : Int) := by omega
    clear hl hb hn hT3 hs h1
    go_enter Tryz.func8, Tryz.ntmps8
    go_wp2
    go_ret2
    exact ⟨rfl, Below.refl _ _⟩
  have hI : (n : Int) ≤ 4096 := by omega
  have HSP := hid (fun W (hW : Below w.heap.size w W) => special_any sa n cap xs hn W (hl.below hW).flt)
  obtain ⟨s1, s2, s3⟩ := spec_bad xs hb
  by_cases h2 : allFin xs = true
  · have s4 := s3 ((bad_nil xs).1 h2)
    rw [s4] at HSP
    unfold exV exE
    rw [if_neg h1, if_neg h1, if_pos h2]
    have HM := hid (fun W (hW : Below w.heap.size w W) => rMinus_any sa n cap xs hb (by rw [hl.1]; exact hn) W (hl.below hW).flt)
    have HXS : Hid (∀ W, Below w.heap.size w W → Calls Tryz.prog 38 #[.slice sa n cap] W fun r w' => ∃ p e, r = .returned (.agg #[.pointer (some ⟨p, 0, none⟩), .int .i64 e]) ∧ Hid ((-1074 ≤ e ∧ e ≤ 2000) ∧ ExV w' p e (-1074) (sumSv xs n) 200) ∧ Below W.heap.size W w') := fun W hW => by
      refine (xSum_list sa n cap xs W (hl.below hW) hb hn h2).mono ?_
      rintro r w' ⟨p, e, rfl, k1, k2, k3⟩
      exact ⟨p, e, rfl, ⟨k1, k2⟩, k3⟩
    have HXR : Hid (∀ W p e, Below w.heap.size w W → Hid ((-1074 ≤ e ∧ e ≤ 2000) ∧ ExV W p e (-1074) (sumSv xs n) 200) → Calls Tryz.prog 48 #[.agg #[.pointer (some ⟨p, 0, none⟩), .int .i64 e], .int .i64 0] W fun r w' => r = .returned (.float .f64 (rndI (sumSv xs n) (-1074))) ∧ Below W.heap.size W w') := fun W p e hW hh => xRound0 p 200 e (-1074) _ W hh.out.2 (by decide) (by have := hh.out.1.1; omega) (by have := hh.out.1.2; omega) (hT3.below hs hW) (Nat.lt_of_lt_of_le hs hW.size)
    have HCS : Hid (∀ W, Calls Tryz.prog 47 #[.float .f64 0, .float .f64 13830554455654793216] W fun e w' => e = .returned (.float .f64 9223372036854775808) ∧ w' = W) := fun W => by
      have := copysign_any 0 true 4607182418800017408 W (by decide) (by decide)
      rw [neg_one.1, neg_one.2] at this
      exact this
    obtain ⟨X, hX⟩ : ∃ X, Hid ((spec3 (naL xs) (upL xs) (dnL xs)).1 = X) := ⟨_, rfl⟩
    rw [hX.out] at HSP
    unfold exactN
    obtain ⟨R, hR⟩ : ∃ X, Hid (rndI (sumSv xs n) (-1074) = X) := ⟨_, rfl⟩
    rw [hR.out] at HXR ⊢
    clear hl hb hn hT3 hs h1 h2 s1 s2 s3 s4
    cases hm : minusB xs with
    | true =>
      rw [hm] at HM
      rw [if_pos rfl]
      clear hm
      go_enter Tryz.func8, Tryz.ntmps8
      go_wp2_with fail
      refine (HSP.out _ (Below.refl _ _)).mono ?_
      rintro r w1 ⟨rfl, rfl⟩
      go_wp2_with fail
      refine (HM.out _ (Below.refl _ _)).mono ?_
      rintro r w1 ⟨rfl, rfl⟩
      go_wp2_with fail
      refine (HCS.out _).mono ?_
      rintro r w1 ⟨rfl, rfl⟩
      go_wp2
      go_ret2
      exact ⟨rfl, Below.refl _ _⟩
    | false =>
      rw [hm] at HM
      rw [if_neg (by decide)]
      clear hm
      go_enter Tryz.func8, Tryz.ntmps8
      go_wp2_with fail
      refine (HSP.out _ (Below.refl _ _)).mono ?_
      rintro r w9 ⟨rfl, hw9⟩
      obtain rfl := hw9.symm
      clear hw9
      go_wp2_with fail
      refine (HM.out _ (Below.refl _ _)).mono ?_
      rintro r w9 ⟨rfl, hw9⟩
      obtain rfl := hw9.symm
      clear hw9
      go_wp2_with fail
      refine (HXS.out _ (Below.refl _ _)).mono ?_
      rintro r w1 ⟨p, e, rfl, HE, hb1⟩
      have HB1 := hid hb1
      clear hb1
      go_wp2_with fail
      refine (HXR.out _ _ _ HB1.out HE).mono ?_
      rintro r w2 ⟨rfl, hb2⟩
      have HB2 := hid (HB1.out.trans (hb2.mono HB1.out.size))
      clear hb2
      go_wp2
      go_ret2
      exact ⟨rfl, HB2.out⟩
  · have h2' : allFin xs = false := by revert h2; cases allFin xs <;> simp
    have s4 := s2 ((bad_nil xs).2 h2')
    rw [s4, s1] at HSP
    unfold exV exE
    rw [if_neg h1, if_neg h1, if_neg h2]
    obtain ⟨S, hS⟩ : ∃ X, Hid (sumC (badL xs) = X) := ⟨_, rfl⟩
    rw [hS.out] at HSP ⊢
    clear hl hb hn hT3 hs h1 h2 h2' s1 s2 s3 s4
    go_enter Tryz.func8, Tryz.ntmps8
    go_wp2_with fail
    refine (HSP.out _ (Below.refl _ _)).mono ?_
    rintro r w1 ⟨rfl, rfl⟩
    go_wp2
    go_ret2
    exact ⟨rfl, Below.refl _ _⟩
end Go.Proofs.YtehnkgonhgjeiaaGreatDoor
