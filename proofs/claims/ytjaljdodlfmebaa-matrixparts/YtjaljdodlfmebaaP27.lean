
/- matrix: fill, of part's closure. (Written by mkmx.py.) -/
import Derived.Test.YtjaljdodlfmebaaP21
import Derived.Test.YtjaljdodlfmebaaP4
import Derived.Test.YtjaljdodlfmebaaP20
import Derived.Test.YtjaljdodlfmebaaP10
namespace Go.Proofs.Ytjaljdodlfmebaa
open Go.RowKit Go.IntWalk

set_option maxRecDepth 4000 in
set_option maxHeartbeats 2000000 in
theorem fill_part (r c : Nat) (hr : r ≤ 100) (hc : c ≤ 100) (p0 p1 p2 : Addr) (P : Nat → Nat → Nat → Prop) (w : World)
    (hF : ∀ W i j, Below w.heap.size w W → i < r → j < c → Calls Try.prog 56 #[.int .i64 (i : Nat), .int .i64 (j : Nat), .pointer (some p0), .pointer (some p1), .pointer (some p2)] W fun e w' => ∃ x : Nat, e = .returned (.float .f64 x) ∧ (P i j x ∧ x < 18446744073709551616) ∧ Below W.heap.size W w') :
    Calls Try.prog 36 #[.int .i64 r, .int .i64 c, .func (.func 56) #[] #[.pointer (some p0), .pointer (some p1), .pointer (some p2)]] w fun e w' => FillR P r c (r * c) w.heap.size e w' ∧ Below w.heap.size w w' := by
  have HF := hid hF
  have hst := fstoreM
  have hpp : r * c ≤ 10000 := Nat.mul_le_mul hr hc
  have HZ := hid (fun W => zeros_any r c hr hc W)
  have HPL : Hid (∀ i j, i < r → j < c → i * c + j < r * c) := fun i j hi hj => place_lt hi hj
  obtain ⟨N, hN⟩ : ∃ p, Hid (r * c = p) := ⟨_, rfl⟩
  rw [hN.out] at hpp HZ HPL ⊢
  clear hF
  go_enter Try.func36, Try.ntmps36
  go_wp2_with fail
  refine (HZ.out _).mono ?_
  rintro e w1 ⟨rfl, h1, h2⟩
  rw [World.size_alloc] at h1 ⊢
  have HSZ : Hid (w.heap.size + 1 + 1 < w1.heap.size) := h1.lt
  have hal : Below w1.heap.size w1 (w1.alloc (MBox r c (some ⟨w.heap.size + 1 + 1, 0, none⟩) N N)) := (Below.refl _ _).alloc (Nat.le_refl _) _
  have HFR : Hid (FrF w (w1.alloc (MBox r c (some ⟨w.heap.size + 1 + 1, 0, none⟩) N N)) w1.heap.size w.heap.size (MBox r c (some ⟨w.heap.size + 1 + 1, 0, none⟩) N N) (MBox 0 0 none 0 0)) :=
    ⟨(((Below.refl _ _).alloc (Nat.le_refl _) _).trans (h2.mono (by simp))).alloc (by have := HSZ.out; omega) _, nblkM _ _, (hal.block _ (by have := HSZ.out; omega)).trans ((h2.block _ (by simp)).trans (nblkM _ _))⟩
  have HR0 : Hid ((w1.alloc (MBox r c (some ⟨w.heap.size + 1 + 1, 0, none⟩) N N)).rowIs (w.heap.size + 1 + 1) 52 N (fun _ => .float .f64 0)) := h1.of_block (hal.block _ HSZ.out)
  obtain ⟨V1, hV1⟩ : ∃ V, Hid (w1.alloc (MBox r c (some ⟨w.heap.size + 1 + 1, 0, none⟩) N N) = V) := ⟨_, rfl⟩
  rw [hV1.out] at HFR HR0
  have hW1 := hV1.out
  obtain ⟨mb, hmb⟩ : ∃ V, Hid (w1.heap.size = V) := ⟨_, rfl⟩
  obtain ⟨rb, hrb⟩ : ∃ V, Hid (w.heap.size = V) := ⟨_, rfl⟩
  obtain ⟨g, hg⟩ : ∃ V, Hid (rb + 1 + 1 = V) := ⟨_, rfl⟩
  have HNE : Hid (mb ≠ g ∧ rb ≠ g ∧ w.heap.size ≤ g) := by
    have e1 := hmb.out; have e2 := hrb.out; have e3 := hg.out; have e4 := HSZ.out
    show _ ∧ _ ∧ _
    omega
  rw [hmb.out, hrb.out] at HFR
  rw [hrb.out] at HR0 hW1 ⊢
  rw [hg.out] at HFR HR0 hW1 ⊢
  have hmb1 := hmb.out
  have hrb1 := hrb.out
  unfold MBox at hW1
  unfold MV
  clear h1 h2 hal HZ
  go_wp2_with fail
  go_loopw [14] (fun iv wr => ∃ (i : Nat) (o : Nat → Nat), i ≤ r ∧ iv = .int .i64 i ∧ Hid (wr.rowIs g 52 N (fun k => .float .f64 (o k))) ∧ Hid (∀ a b, a < i → b < c → P a b (o (a * c + b)) ∧ o (a * c + b) < 18446744073709551616) ∧ Hid (FrF w wr mb rb (MBox r c (some ⟨g, 0, none⟩) N N) (MBox 0 0 none 0 0))) (fun iv _ => r - (intOf iv).toNat)
  case atStart => exact ⟨0, fun _ => 0, Nat.zero_le _, rfl, HR0, fun a b ha => absurd ha (Nat.not_lt_zero a), HFR⟩
  case round =>
    obtain ⟨i, o, hi, rfl, HR, HP, HFW⟩ := hrel
    by_cases hlt : i < r
    · have hiI : (i : Int) < (r : Int) := by omega
      have HI := hid hlt
      clear hlt
      go_wp2_with fail
      go_loopw [18] (fun jv wr2 => ∃ (j : Nat) (o2 : Nat → Nat), j ≤ c ∧ jv = .int .i64 j ∧ Hid (wr2.rowIs g 52 N (fun k => .float .f64 (o2 k))) ∧ Hid (∀ a b, (a < i ∨ (a = i ∧ b < j)) → b < c → P a b (o2 (a * c + b)) ∧ o2 (a * c + b) < 18446744073709551616) ∧ Hid (FrF w wr2 mb rb (MBox r c (some ⟨g, 0, none⟩) N N) (MBox 0 0 none 0 0))) (fun jv _ => c - (intOf jv).toNat)
      case atStart => exact ⟨0, o, Nat.zero_le _, rfl, HR, fun a b hab hb => HP.out a b (by rcases hab with h | ⟨_, h⟩ <;> omega) hb, HFW⟩
      case round =>
        obtain ⟨j, o2, hj, rfl, HR2, HP2, HFW2⟩ := hrel
        by_cases hl2 : j < c
        · have hjI : (j : Int) < (c : Int) := by omega
          have hkN := HPL.out i j HI.out hl2
          have hp : i * c ≤ 10000 := by omega
          have e1 : (i : Int) * (c : Int) = ((i * c : Nat) : Int) := by simp
          obtain ⟨p, hp'⟩ : ∃ p, Hid (i * c = p) := ⟨_, rfl⟩
          rw [hp'.out] at e1 hp hkN
          have e2 : (p : Int) + (j : Int) = ((p + j : Nat) : Int) := by simp
          obtain ⟨k, hk'⟩ : ∃ k, Hid (p + j = k) := ⟨_, rfl⟩
          have e3 := wrapM p (by omega)
          have e4 := wrapM k (by rw [← hk'.out]; omega)
          rw [hk'.out] at e2 hkN
          have k0 : (0 : Int) ≤ (k : Int) := by omega
          have k1 : (k : Int) < (N : Int) := by omega
          have HCALL := hid (HF.out wr.drew i j HFW2.out.drew.1 HI.out hl2)
          have HS0 : Hid (wr.drew.cell? ⟨mb, 2, none⟩ = some (.slice (some ⟨g, 0, none⟩) N N)) := (mcells_of HFW2.out.drew.2.1).2.2
          have HJ := hid hl2
          have HKN := hid hkN
          clear hl2 hkN hp
          go_wp2_with fail
          refine wp_region_held_drew (S := fun W => W.cell? ⟨mb, 2, none⟩ = some (.slice (some ⟨g, 0, none⟩) N N)) (by kernel_rfl) HS0.out (fun hHeld => ?_)
          refine take_at 0 21 (.pointer (some ⟨mb, 2, none⟩)) rfl rfl (by kernel_rfl) (by kernel_rfl) (by kernel_rfl) (fun _ _ _ h => h) (Or.inl ⟨by rfl, fun w hSw => by (try dsimp only at hSw); go_simp⟩) (by assumption) ?_
          simp only [Act.put, List.setIfInBounds_toArray, List.set_cons_zero, List.set_cons_succ]
          refine take_at 1 22 (.slice (some ⟨g, 0, none⟩) N N) rfl rfl (by kernel_rfl) (by kernel_rfl) (by kernel_rfl) (fun _ _ _ h => h) (Or.inl ⟨by rfl, fun w hSw => by (try dsimp only at hSw); go_simp⟩) (by assumption) ?_
          simp only [Act.put, List.setIfInBounds_toArray, List.set_cons_zero, List.set_cons_succ]
          refine take_at 2 23 (.int .i64 i) rfl rfl (by kernel_rfl) (by kernel_rfl) (by kernel_rfl) (fun _ _ _ h => h) (Or.inl ⟨by rfl, fun w hSw => by (try dsimp only at hSw); go_simp⟩) (by assumption) ?_
          simp only [Act.put, List.setIfInBounds_toArray, List.set_cons_zero, List.set_cons_succ]
          refine take_at 3 24 (.int .i64 c) rfl rfl (by kernel_rfl) (by kernel_rfl) (by kernel_rfl) (fun _ _ _ h => h) (Or.inl ⟨by rfl, fun w hSw => by (try dsimp only at hSw); go_simp⟩) (by assumption) ?_
          simp only [Act.put, List.setIfInBounds_toArray, List.set_cons_zero, List.set_cons_succ]
          refine take_at 4 25 (.int .i64 p) rfl rfl (by kernel_rfl) (by kernel_rfl) (by kernel_rfl) (fun _ _ _ h => h) (Or.inl ⟨by rfl, fun w hSw => by (try dsimp only at hSw); go_simp⟩) (by assumption) ?_
          simp only [Act.put, List.setIfInBounds_toArray, List.set_cons_zero, List.set_cons_succ]
          refine take_at 5 26 (.int .i64 j) rfl rfl (by kernel_rfl) (by kernel_rfl) (by kernel_rfl) (fun _ _ _ h => h) (Or.inl ⟨by rfl, fun w hSw => by (try dsimp only at hSw); go_simp⟩) (by assumption) ?_
          simp only [Act.put, List.setIfInBounds_toArray, List.set_cons_zero, List.set_cons_succ]
          refine take_at 6 27 (.int .i64 k) rfl rfl (by kernel_rfl) (by kernel_rfl) (by kernel_rfl) (fun _ _ _ h => h) (Or.inl ⟨by rfl, fun w hSw => by (try dsimp only at hSw); go_simp⟩) (by assumption) ?_
          simp only [Act.put, List.setIfInBounds_toArray, List.set_cons_zero, List.set_cons_succ]
          refine take_at 7 28 (.func (.func 56) #[] #[.pointer (some p0), .pointer (some p1), .pointer (some p2)]) rfl rfl (by kernel_rfl) (by kernel_rfl) (by kernel_rfl) (fun _ _ _ h => h) (Or.inl ⟨by rfl, fun w hSw => by (try dsimp only at hSw); go_simp⟩) (by assumption) ?_
          simp only [Act.put, List.setIfInBounds_toArray, List.set_cons_zero, List.set_cons_succ]
          refine take_at 8 29 (.int .i64 i) rfl rfl (by kernel_rfl) (by kernel_rfl) (by kernel_rfl) (fun _ _ _ h => h) (Or.inl ⟨by rfl, fun w hSw => by (try dsimp only at hSw); go_simp⟩) (by assumption) ?_
          simp only [Act.put, List.setIfInBounds_toArray, List.set_cons_zero, List.set_cons_succ]
          refine take_at 9 30 (.int .i64 j) rfl rfl (by kernel_rfl) (by kernel_rfl) (by kernel_rfl) (fun _ _ _ h => h) (Or.inl ⟨by rfl, fun w hSw => by (try dsimp only at hSw); go_simp⟩) (by assumption) ?_
          simp only [Act.put, List.setIfInBounds_toArray, List.set_cons_zero, List.set_cons_succ]
          refine wpAnyH_ready (rs := [10]) (by kernel_rfl) (by simp) ?_
          refine AllReadyH.cons (o := _) rfl (fun K hK => ?_) AllReadyH.nil
          go_simp
          refine HCALL.out.mono ?_
          rintro e u1 ⟨x, rfl, hx, hb1⟩
          have HX := hid hx
          have HFU := hid (HFW2.out.drew.call hb1)
          have HRU : Hid (u1.rowIs g 52 N (fun k => .float .f64 (o2 k))) := (HR2.out.of_block rfl).of_block (hb1.block _ HR2.out.lt)
          have HSU : Hid (u1.cell? ⟨mb, 2, none⟩ = some (.slice (some ⟨g, 0, none⟩) N N)) := (mcells_of HFU.out.2.1).2.2
          clear hx hb1
          go_wp2_with fail
          refine hK.out _ _ HSU.out (fun hHeld1 => ?_)
          clear hK K
          try simp only [Act.put, List.setIfInBounds_toArray, List.set_cons_zero, List.set_cons_succ]
          refine take_at 11 32 (.pointer (some ⟨g, k, none⟩)) rfl rfl (by kernel_rfl) (by kernel_rfl) (by kernel_rfl) (fun _ _ _ h => h) (Or.inl ⟨by rfl, fun w hSw => by (try dsimp only at hSw); go_simp⟩) (by assumption) ?_
          simp only [Act.put, List.setIfInBounds_toArray, List.set_cons_zero, List.set_cons_succ]
          have cx := HRU.out.cell (i := k) HKN.out
          have fx := HRU.out.frozen k
          have HSV : Hid ((u1.setCell ⟨g, k, none⟩ (.float .f64 x)).cell? ⟨mb, 2, none⟩ = some (.slice (some ⟨g, 0, none⟩) N N)) := (mcells_of (HFU.out.set HNE.out.1 HNE.out.2.1 HNE.out.2.2 _).2.1).2.2
          refine wpAnyH_ready (rs := [12]) (by kernel_rfl) (by simp) ?_
          refine AllReadyH.cons (o := _) rfl (fun K hK => ?_) AllReadyH.nil
          go_simp
          go_wp2_with fail
          refine hK.out _ _ HSV.out (fun hHeld2 => ?_)
          clear hK K
          try simp only [Act.put, List.setIfInBounds_toArray, List.set_cons_zero, List.set_cons_succ]
          refine wpAnyH_done (by kernel_rfl) ?_ _
          go_wp2_with fail
          have hkk : i * c + j = k := by rw [hp'.out, hk'.out]
          have hj1 := HJ.out
          refine ⟨⟨j + 1, fun t => if t = k then x else o2 t, by omega, by go_num, ?_, fun a b hab hb => ?_, HFU.out.set HNE.out.1 HNE.out.2.1 HNE.out.2.2 _⟩, ?_⟩
          · refine (HRU.out.set k _).congr (fun t _ => ?_)
            by_cases ht : t = k <;> simp [ht]
          · by_cases h : a * c + b = k
            · obtain ⟨ea, eb⟩ := place_ne hb hj1 (h.trans hkk.symm)
              subst ea eb
              dsimp only
              rw [if_pos h]
              exact HX.out
            · dsimp only
              rw [if_neg h]
              refine HP2.out a b ?_ hb
              rcases hab with h1 | ⟨h1, h2⟩
              · exact Or.inl h1
              · have : b ≠ j := fun hc => h (by rw [h1, hc]; exact hkk)
                exact Or.inr ⟨h1, by omega⟩
          · simp [intOf]; omega
        · obtain rfl : j = c := by omega
          go_wp2_with fail
          have hi1 := HI.out
          refine ⟨⟨i + 1, o2, by omega, by go_num, HR2, fun a b ha hb => HP2.out a b (by omega) hb, HFW2⟩, ?_⟩
          simp [intOf]; omega
    · obtain rfl : i = r := by omega
      obtain ⟨m0, m1, m2⟩ := mcells_of HFW.out.2.1
      obtain ⟨b0, b1, b2⟩ := mcells_of HFW.out.2.2
      have fz : ∀ o, wr.frozen? ⟨rb, o, none⟩ = false := fun o => by have := HFW.out.2.2; unfold MBox at this; simp [World.frozen?, this]
      go_wp2_with fail
      refine bodyPost_ret (v := MV i c (some ⟨g, 0, none⟩) N N) (by simp [results, Try.results36, go_sem, b0, b1, b2, MV]) rfl ⟨⟨g, o, rfl, by have := hg.out; omega, ?_, HP.out⟩, ?_⟩
      · exact ((HR.out.of_block (set_keepM (Ne.symm HNE.out.2.1) _)).of_block (set_keepM (Ne.symm HNE.out.2.1) _)).of_block (set_keepM (Ne.symm HNE.out.2.1) _)
      · exact ((HFW.out.1.setCell (p := ⟨rb, 0, none⟩) (by have := hrb.out; show w.heap.size ≤ rb; omega) _).setCell (p := ⟨rb, 1, none⟩) (by have := hrb.out; show w.heap.size ≤ rb; omega) _).setCell (p := ⟨rb, 2, none⟩) (by have := hrb.out; show w.heap.size ≤ rb; omega) _
end Go.Proofs.Ytjaljdodlfmebaa

namespace Go.Proofs.Ytjaljdodlfmebaa
open Go.RowKit Go.IntWalk

end Go.Proofs.Ytjaljdodlfmebaa

namespace Go.Proofs.Ytjaljdodlfmebaa
open Go.RowKit Go.IntWalk

/-- Is a number among the first ones of a list? -/
def seenB (ps : List Int) : Nat → Int → Bool
  | 0, _ => false
  | k + 1, x => seenB ps k x || decide (ps.getD k 0 = x)
/-- Are the first ones places below n, no two alike? -/
def ordB (n : Nat) (ps : List Int) : Nat → Bool
  | 0 => true
  | k + 1 => ordB n ps k && (decide (0 ≤ ps.getD k 0) && decide (ps.getD k 0 < (n : Int)) && !(seenB ps k (ps.getD k 0)))
theorem ord_stop {n : Nat} {ps : List Int} {k m : Nat} (hk : k < m) (h : ¬ (0 ≤ ps.getD k 0 ∧ ps.getD k 0 < (n : Int) ∧ seenB ps k (ps.getD k 0) = false)) : ordB n ps m = false := by
  induction m with
  | zero => omega
  | succ m ih =>
    show (ordB n ps m && (decide (0 ≤ ps.getD m 0) && decide (ps.getD m 0 < (n : Int)) && !(seenB ps m (ps.getD m 0)))) = false
    by_cases hkm : k = m
    · subst hkm
      by_cases h1 : 0 ≤ ps.getD k 0
      · by_cases h2 : ps.getD k 0 < (n : Int)
        · have h3 : seenB ps k (ps.getD k 0) = true := by
            cases hq : seenB ps k (ps.getD k 0) with
            | true => rfl
            | false => exact absurd ⟨h1, h2, hq⟩ h
          rw [h3]; simp
        · rw [decide_eq_false h2]; simp
      · rw [decide_eq_false h1]; simp
    · rw [ih (by omega)]; rfl
theorem ord_next {n : Nat} {ps : List Int} {k : Nat} (h : ordB n ps k = true) (h1 : 0 ≤ ps.getD k 0) (h2 : ps.getD k 0 < (n : Int)) (h3 : seenB ps k (ps.getD k 0) = false) : ordB n ps (k + 1) = true := by
  show (ordB n ps k && (decide (0 ≤ ps.getD k 0) && decide (ps.getD k 0 < (n : Int)) && !(seenB ps k (ps.getD k 0)))) = true
  rw [h, decide_eq_true h1, decide_eq_true h2, h3]; rfl
theorem ord_at {n : Nat} {ps : List Int} : ∀ {m k : Nat}, ordB n ps m = true → k < m → 0 ≤ ps.getD k 0 ∧ ps.getD k 0 < (n : Int)
  | 0, _, _, h => absurd h (Nat.not_lt_zero _)
  | m + 1, k, h, hk => by
    have h' : (ordB n ps m && (decide (0 ≤ ps.getD m 0) && decide (ps.getD m 0 < (n : Int)) && !(seenB ps m (ps.getD m 0)))) = true := h
    rw [Bool.and_eq_true, Bool.and_eq_true, Bool.and_eq_true, decide_eq_true_eq, decide_eq_true_eq] at h'
    by_cases c : k = m
    · subst c; exact h'.2.1
    · exact ord_at h'.1 (by omega)
theorem I64At.belo {W W' : World} {sa : Option Addr} {n : Nat} {xs : List Int} (h : I64At W sa n xs) (hb : Below W.heap.size W W') : I64At W' sa n xs := by
  refine ⟨h.1, h.2.1, fun hn => ?_⟩
  obtain ⟨b, off, e, hl, hc⟩ := h.2.2 hn
  refine ⟨b, off, e, Nat.lt_of_lt_of_le hl hb.size, fun i hi => ?_⟩
  rw [hb.cell (p := ⟨b, off + i, none⟩) hl]
  exact hc i hi
/-- The numbers that were seen, as the program keeps them. -/
def SeenO : Obj := .cells #[.bool false, .bool false, .bool false, .bool false, .bool false, .bool false, .bool false, .bool false, .bool false, .bool false, .bool false, .bool false] 69
theorem seen_row (w : World) : (w.alloc SeenO).rowIs w.heap.size 69 12 (fun _ => .bool false) :=
  show (w.alloc (.cells (Array.replicate 12 (.bool false)) 69)).rowIs _ _ _ _ from World.rowIs_alloc w (Array.replicate 12 (.bool false)) 69 (fun _ => .bool false) (fun i hi => by simp at hi; simp [hi])
set_option maxRecDepth 4000 in
set_option maxHeartbeats 2000000 in
theorem isOrder_any (pa : Option Addr) (m pc : Nat) (ps : List Int) (w : World) (hu : I64At w pa m ps) (hm : m ≤ 12) : Calls Try.prog 35 #[.slice pa m pc] w fun e w' => e = .returned (.bool (ordB m ps m)) ∧ Below w.heap.size w w' := by
  have HM := hid hm
  have HU := hid hu
  have HB : Hid (Below w.heap.size w (w.alloc SeenO)) := (Below.refl _ _).alloc (Nat.le_refl _) _
  have HR := hid (seen_row w)
  obtain ⟨V, hV⟩ : ∃ V, Hid (w.alloc SeenO = V) := ⟨_, rfl⟩
  obtain ⟨sb, hsb⟩ : ∃ t, Hid (w.heap.size = t) := ⟨_, rfl⟩
  rw [hV.out] at HB HR
  have hV' := hV.out
  have hsb' := hsb.out
  rw [hsb.out] at HR
  unfold SeenO at hV'
  clear hm hu
  go_enter Try.func35, Try.ntmps35
  go_wp2_with fail
  go_loopw [8] (fun kv wr => ∃ k : Nat, k ≤ m ∧ kv = .int .i64 k ∧ Hid (ordB m ps k = true) ∧ Hid (wr.rowIs sb 69 12 (fun j => .bool (seenB ps k (j : Int)))) ∧ Hid (Below w.heap.size w wr)) (fun kv _ => m - (intOf kv).toNat)
  case atStart => exact ⟨0, Nat.zero_le _, rfl, rfl, HR, HB⟩
  case round =>
    obtain ⟨k, hk, rfl, HO, HR, HB⟩ := hrel
    by_cases hlt : k < m
    · have hkI : (k : Int) < (m : Int) := by omega
      obtain ⟨pb, po, rfl, hbl, hcl⟩ := HU.out.2.2 (by omega)
      have hck : wr.cell? ⟨pb, po + k, none⟩ = some (.int .i64 (ps.getD k 0)) := by
        rw [HB.out.cell (p := ⟨pb, po + k, none⟩) hbl]
        exact hcl k hlt
      have HST := hid (fun h => ord_stop (n := m) (ps := ps) (k := k) (m := m) hlt h)
      have HNX := hid (fun h1 h2 h3 => ord_next (n := m) HO.out h1 h2 h3)
      have HSN : Hid (∀ x : Int, seenB ps (k + 1) x = (seenB ps k x || decide (ps.getD k 0 = x))) := fun x => rfl
      have HL := hid hlt
      obtain ⟨x, hx⟩ : ∃ t, Hid (ps.getD k 0 = t) := ⟨_, rfl⟩
      rw [hx.out] at hck HST HNX HSN
      clear hcl hlt
      by_cases h1 : x < 0
      · go_wp2_with fail
        go_ret
        exact ⟨ret_bool (HST.out (fun h => by omega)).symm, by first | exact HB.out | (have hbe := HB.out; rw [hsb.out] at hbe; exact hbe)⟩
      by_cases h2 : (m : Int) ≤ x
      · go_wp2_with fail
        go_ret
        exact ⟨ret_bool (HST.out (fun h => by omega)).symm, by first | exact HB.out | (have hbe := HB.out; rw [hsb.out] at hbe; exact hbe)⟩
      obtain ⟨a, rfl⟩ := Int.eq_ofNat_of_zero_le (show 0 ≤ x by omega)
      have ha12 : a < 12 := by have := HM.out; omega
      have haI : (a : Int) < 12 := by omega
      have hcs : wr.cell? ⟨sb, a, none⟩ = some (.bool (seenB ps k (a : Int))) := HR.out.cell ha12
      have hfz : wr.frozen? ⟨sb, a, none⟩ = false := HR.out.frozen a
      obtain ⟨sn, hsn⟩ : ∃ t, Hid (seenB ps k (a : Int) = t) := ⟨_, rfl⟩
      rw [hsn.out] at hcs
      cases sn with
      | true =>
        go_wp2_with fail
        go_ret
        refine ⟨ret_bool (HST.out (fun h => ?_)).symm, by first | exact HB.out | (have hbe := HB.out; rw [hsb.out] at hbe; exact hbe)⟩
        have := hsn.out.symm.trans h.2.2
        cases this
      | false =>
        have HO2 := hid (HNX.out (by omega) (by omega) hsn.out)
        have HR2 : Hid ((wr.setCell ⟨sb, a, none⟩ (.bool true)).rowIs sb 69 12 (fun j => .bool (seenB ps (k + 1) (j : Int)))) := (HR.out.set a (.bool true)).congr (fun t _ => by
          by_cases ht : t = a
          · subst ht; rw [if_pos rfl, HSN.out, decide_eq_true rfl, Bool.or_true]
          · rw [if_neg ht, HSN.out, decide_eq_false (by omega), Bool.or_false])
        have HB2 : Hid (Below w.heap.size w (wr.setCell ⟨sb, a, none⟩ (.bool true))) := HB.out.setCell (p := ⟨sb, a, none⟩) (by have := hsb.out; show w.heap.size ≤ sb; omega) _
        clear hsn HNX HST
        have hm12 := HM.out
        go_wp2_with fail
        have hl := HL.out
        refine ⟨⟨k + 1, by omega, by go_num, HO2, HR2, HB2⟩, ?_⟩
        simp [intOf]; omega
    · obtain rfl : m = k := by omega
      go_wp2_with fail
      go_ret
      exact ⟨ret_bool HO.out.symm, by first | exact HB.out | (have hbe := HB.out; rw [hsb.out] at hbe; exact hbe)⟩
end Go.Proofs.Ytjaljdodlfmebaa
