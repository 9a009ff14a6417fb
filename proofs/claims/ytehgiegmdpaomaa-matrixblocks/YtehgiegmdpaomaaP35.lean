
/- matrix.Order of any matrix and any list. (Written by mkndk.py.) -/
import Derived.Test.YtehgiegmdpaomaaP20
import Derived.Test.YtehgiegmdpaomaaP34
import Derived.Test.YtehgiegmdpaomaaP28
namespace Go.Proofs.Ytehgiegmdpaomaa
open Go.RowKit Go.IntWalk

set_option maxRecDepth 4000 in
set_option maxHeartbeats 2000000 in
theorem fill_Order (r c : Nat) (hr : r ≤ 100) (hc : c ≤ 100) (p0 p1 : Addr) (P : Nat → Nat → Nat → Prop) (w : World)
    (hF : ∀ W i j, Below w.heap.size w W → i < r → j < c → Calls Try.prog 33 #[.int .i64 (i : Nat), .int .i64 (j : Nat), .pointer (some p0), .pointer (some p1)] W fun e w' => ∃ x : Nat, e = .returned (.float .f64 x) ∧ (P i j x ∧ x < 18446744073709551616) ∧ Below W.heap.size W w') :
    Calls Try.prog 26 #[.int .i64 r, .int .i64 c, .func (.func 33) #[] #[.pointer (some p0), .pointer (some p1)]] w fun e w' => FillR P r c (r * c) w.heap.size e w' ∧ Below w.heap.size w w' := by
  have HF := hid hF
  have hst := fstoreM
  have hpp : r * c ≤ 10000 := Nat.mul_le_mul hr hc
  have HZ := hid (fun W => zeros_any r c hr hc W)
  have HPL : Hid (∀ i j, i < r → j < c → i * c + j < r * c) := fun i j hi hj => place_lt hi hj
  obtain ⟨N, hN⟩ : ∃ p, Hid (r * c = p) := ⟨_, rfl⟩
  rw [hN.out] at hpp HZ HPL ⊢
  clear hF
  go_enter Try.func26, Try.ntmps26
  go_wp2_with fail
  refine (HZ.out _).mono ?_
  rintro e w1 ⟨rfl, h1, h2⟩
  rw [World.size_alloc] at h1 ⊢
  have HSZ : Hid (w.heap.size + 1 + 1 < w1.heap.size) := h1.lt
  have hal : Below w1.heap.size w1 (w1.alloc (MBox r c (some ⟨w.heap.size + 1 + 1, 0, none⟩) N N)) := (Below.refl _ _).alloc (Nat.le_refl _) _
  have HFR : Hid (FrF w (w1.alloc (MBox r c (some ⟨w.heap.size + 1 + 1, 0, none⟩) N N)) w1.heap.size w.heap.size (MBox r c (some ⟨w.heap.size + 1 + 1, 0, none⟩) N N) (MBox 0 0 none 0 0)) :=
    ⟨(((Below.refl _ _).alloc (Nat.le_refl _) _).trans (h2.mono (by simp))).alloc (by have := HSZ.out; omega) _, nblkM _ _, (hal.block _ (by have := HSZ.out; omega)).trans ((h2.block _ (by simp)).trans (nblkM _ _))⟩
  have HR0 : Hid ((w1.alloc (MBox r c (some ⟨w.heap.size + 1 + 1, 0, none⟩) N N)).rowIs (w.heap.size + 1 + 1) 42 N (fun _ => .float .f64 0)) := h1.of_block (hal.block _ HSZ.out)
  obtain ⟨V1, hV1⟩ : ∃ V, Hid (w1.alloc (MBox r c (some ⟨w.heap.size + 1 + 1, 0, none⟩) N N) = V) := ⟨_, rfl⟩
  rw [hV1.out] at HFR HR0
  have hW1 := hV1.out
  obtain ⟨mb, hmb⟩ : ∃ V, Hid (w1.heap.size = V) := ⟨_, rfl⟩
  obtain ⟨rb, hrb⟩ : ∃ V, Hid (w.heap.size = V) := ⟨_, rfl⟩
  obtain ⟨g, hg⟩ : ∃ V, Hid (rb + 1 + 1 = V) := ⟨_, rfl⟩
  have HNE : Hid (mb ≠ g ∧ rb ≠ g ∧ w.heap.size ≤ g) := by
    have e1 := hmb.out; have e2 := hrb.out; have e3 := hg.out; have e4 := HSZ.out
    show _ ∧ _ ∧ _
    omega
  rw [hmb.out, hrb.out] at HFR
  rw [hrb.out] at HR0 hW1 ⊢
  rw [hg.out] at HFR HR0 hW1 ⊢
  have hmb1 := hmb.out
  have hrb1 := hrb.out
  unfold MBox at hW1
  unfold MV
  clear h1 h2 hal HZ
  go_wp2_with fail
  go_loopw [14] (fun iv wr => ∃ (i : Nat) (o : Nat → Nat), i ≤ r ∧ iv = .int .i64 i ∧ Hid (wr.rowIs g 42 N (fun k => .float .f64 (o k))) ∧ Hid (∀ a b, a < i → b < c → P a b (o (a * c + b)) ∧ o (a * c + b) < 18446744073709551616) ∧ Hid (FrF w wr mb rb (MBox r c (some ⟨g, 0, none⟩) N N) (MBox 0 0 none 0 0))) (fun iv _ => r - (intOf iv).toNat)
  case atStart => exact ⟨0, fun _ => 0, Nat.zero_le _, rfl, HR0, fun a b ha => absurd ha (Nat.not_lt_zero a), HFR⟩
  case round =>
    obtain ⟨i, o, hi, rfl, HR, HP, HFW⟩ := hrel
    by_cases hlt : i < r
    · have hiI : (i : Int) < (r : Int) := by omega
      have HI := hid hlt
      clear hlt
      go_wp2_with fail
      go_loopw [18] (fun jv wr2 => ∃ (j : Nat) (o2 : Nat → Nat), j ≤ c ∧ jv = .int .i64 j ∧ Hid (wr2.rowIs g 42 N (fun k => .float .f64 (o2 k))) ∧ Hid (∀ a b, (a < i ∨ (a = i ∧ b < j)) → b < c → P a b (o2 (a * c + b)) ∧ o2 (a * c + b) < 18446744073709551616) ∧ Hid (FrF w wr2 mb rb (MBox r c (some ⟨g, 0, none⟩) N N) (MBox 0 0 none 0 0))) (fun jv _ => c - (intOf jv).toNat)
      case atStart => exact ⟨0, o, Nat.zero_le _, rfl, HR, fun a b hab hb => HP.out a b (by rcases hab with h | ⟨_, h⟩ <;> omega) hb, HFW⟩
      case round =>
        obtain ⟨j, o2, hj, rfl, HR2, HP2, HFW2⟩ := hrel
        by_cases hl2 : j < c
        · have hjI : (j : Int) < (c : Int) := by omega
          have hkN := HPL.out i j HI.out hl2
          have hp : i * c ≤ 10000 := by omega
          have e1 : (i : Int) * (c : Int) = ((i * c : Nat) : Int) := by simp
          obtain ⟨p, hp'⟩ : ∃ p, Hid (i * c = p) := ⟨_, rfl⟩
          rw [hp'.out] at e1 hp hkN
          have e2 : (p : Int) + (j : Int) = ((p + j : Nat) : Int) := by simp
          obtain ⟨k, hk'⟩ : ∃ k, Hid (p + j = k) := ⟨_, rfl⟩
          have e3 := wrapM p (by omega)
          have e4 := wrapM k (by rw [← hk'.out]; omega)
          rw [hk'.out] at e2 hkN
          have k0 : (0 : Int) ≤ (k : Int) := by omega
          have k1 : (k : Int) < (N : Int) := by omega
          have HCALL := hid (HF.out wr.drew i j HFW2.out.drew.1 HI.out hl2)
          have HS0 : Hid (wr.drew.cell? ⟨mb, 2, none⟩ = some (.slice (some ⟨g, 0, none⟩) N N)) := (mcells_of HFW2.out.drew.2.1).2.2
          have HJ := hid hl2
          have HKN := hid hkN
          clear hl2 hkN hp
          go_wp2_with fail
          refine wp_region_held_drew (S := fun W => W.cell? ⟨mb, 2, none⟩ = some (.slice (some ⟨g, 0, none⟩) N N)) (by kernel_rfl) HS0.out (fun hHeld => ?_)
          refine take_at 0 21 (.pointer (some ⟨mb, 2, none⟩)) rfl rfl (by kernel_rfl) (by kernel_rfl) (by kernel_rfl) (fun _ _ _ h => h) (Or.inl ⟨by rfl, fun w hSw => by (try dsimp only at hSw); go_simp⟩) (by assumption) ?_
          simp only [Act.put, List.setIfInBounds_toArray, List.set_cons_zero, List.set_cons_succ]
          refine take_at 1 22 (.slice (some ⟨g, 0, none⟩) N N) rfl rfl (by kernel_rfl) (by kernel_rfl) (by kernel_rfl) (fun _ _ _ h => h) (Or.inl ⟨by rfl, fun w hSw => by (try dsimp only at hSw); go_simp⟩) (by assumption) ?_
          simp only [Act.put, List.setIfInBounds_toArray, List.set_cons_zero, List.set_cons_succ]
          refine take_at 2 23 (.int .i64 i) rfl rfl (by kernel_rfl) (by kernel_rfl) (by kernel_rfl) (fun _ _ _ h => h) (Or.inl ⟨by rfl, fun w hSw => by (try dsimp only at hSw); go_simp⟩) (by assumption) ?_
          simp only [Act.put, List.setIfInBounds_toArray, List.set_cons_zero, List.set_cons_succ]
          refine take_at 3 24 (.int .i64 c) rfl rfl (by kernel_rfl) (by kernel_rfl) (by kernel_rfl) (fun _ _ _ h => h) (Or.inl ⟨by rfl, fun w hSw => by (try dsimp only at hSw); go_simp⟩) (by assumption) ?_
          simp only [Act.put, List.setIfInBounds_toArray, List.set_cons_zero, List.set_cons_succ]
          refine take_at 4 25 (.int .i64 p) rfl rfl (by kernel_rfl) (by kernel_rfl) (by kernel_rfl) (fun _ _ _ h => h) (Or.inl ⟨by rfl, fun w hSw => by (try dsimp only at hSw); go_simp⟩) (by assumption) ?_
          simp only [Act.put, List.setIfInBounds_toArray, List.set_cons_zero, List.set_cons_succ]
          refine take_at 5 26 (.int .i64 j) rfl rfl (by kernel_rfl) (by kernel_rfl) (by kernel_rfl) (fun _ _ _ h => h) (Or.inl ⟨by rfl, fun w hSw => by (try dsimp only at hSw); go_simp⟩) (by assumption) ?_
          simp only [Act.put, List.setIfInBounds_toArray, List.set_cons_zero, List.set_cons_succ]
          refine take_at 6 27 (.int .i64 k) rfl rfl (by kernel_rfl) (by kernel_rfl) (by kernel_rfl) (fun _ _ _ h => h) (Or.inl ⟨by rfl, fun w hSw => by (try dsimp only at hSw); go_simp⟩) (by assumption) ?_
          simp only [Act.put, List.setIfInBounds_toArray, List.set_cons_zero, List.set_cons_succ]
          refine take_at 7 28 (.func (.func 33) #[] #[.pointer (some p0), .pointer (some p1)]) rfl rfl (by kernel_rfl) (by kernel_rfl) (by kernel_rfl) (fun _ _ _ h => h) (Or.inl ⟨by rfl, fun w hSw => by (try dsimp only at hSw); go_simp⟩) (by assumption) ?_
          simp only [Act.put, List.setIfInBounds_toArray, List.set_cons_zero, List.set_cons_succ]
          refine take_at 8 29 (.int .i64 i) rfl rfl (by kernel_rfl) (by kernel_rfl) (by kernel_rfl) (fun _ _ _ h => h) (Or.inl ⟨by rfl, fun w hSw => by (try dsimp only at hSw); go_simp⟩) (by assumption) ?_
          simp only [Act.put, List.setIfInBounds_toArray, List.set_cons_zero, List.set_cons_succ]
          refine take_at 9 30 (.int .i64 j) rfl rfl (by kernel_rfl) (by kernel_rfl) (by kernel_rfl) (fun _ _ _ h => h) (Or.inl ⟨by rfl, fun w hSw => by (try dsimp only at hSw); go_simp⟩) (by assumption) ?_
          simp only [Act.put, List.setIfInBounds_toArray, List.set_cons_zero, List.set_cons_succ]
          refine wpAnyH_ready (rs := [10]) (by kernel_rfl) (by simp) ?_
          refine AllReadyH.cons (o := _) rfl (fun K hK => ?_) AllReadyH.nil
          go_simp
          refine HCALL.out.mono ?_
          rintro e u1 ⟨x, rfl, hx, hb1⟩
          have HX := hid hx
          have HFU := hid (HFW2.out.drew.call hb1)
          have HRU : Hid (u1.rowIs g 42 N (fun k => .float .f64 (o2 k))) := (HR2.out.of_block rfl).of_block (hb1.block _ HR2.out.lt)
          have HSU : Hid (u1.cell? ⟨mb, 2, none⟩ = some (.slice (some ⟨g, 0, none⟩) N N)) := (mcells_of HFU.out.2.1).2.2
          clear hx hb1
          go_wp2_with fail
          refine hK.out _ _ HSU.out (fun hHeld1 => ?_)
          clear hK K
          try simp only [Act.put, List.setIfInBounds_toArray, List.set_cons_zero, List.set_cons_succ]
          refine take_at 11 32 (.pointer (some ⟨g, k, none⟩)) rfl rfl (by kernel_rfl) (by kernel_rfl) (by kernel_rfl) (fun _ _ _ h => h) (Or.inl ⟨by rfl, fun w hSw => by (try dsimp only at hSw); go_simp⟩) (by assumption) ?_
          simp only [Act.put, List.setIfInBounds_toArray, List.set_cons_zero, List.set_cons_succ]
          have cx := HRU.out.cell (i := k) HKN.out
          have fx := HRU.out.frozen k
          have HSV : Hid ((u1.setCell ⟨g, k, none⟩ (.float .f64 x)).cell? ⟨mb, 2, none⟩ = some (.slice (some ⟨g, 0, none⟩) N N)) := (mcells_of (HFU.out.set HNE.out.1 HNE.out.2.1 HNE.out.2.2 _).2.1).2.2
          refine wpAnyH_ready (rs := [12]) (by kernel_rfl) (by simp) ?_
          refine AllReadyH.cons (o := _) rfl (fun K hK => ?_) AllReadyH.nil
          go_simp
          go_wp2_with fail
          refine hK.out _ _ HSV.out (fun hHeld2 => ?_)
          clear hK K
          try simp only [Act.put, List.setIfInBounds_toArray, List.set_cons_zero, List.set_cons_succ]
          refine wpAnyH_done (by kernel_rfl) ?_ _
          go_wp2_with fail
          have hkk : i * c + j = k := by rw [hp'.out, hk'.out]
          have hj1 := HJ.out
          refine ⟨⟨j + 1, fun t => if t = k then x else o2 t, by omega, by go_num, ?_, fun a b hab hb => ?_, HFU.out.set HNE.out.1 HNE.out.2.1 HNE.out.2.2 _⟩, ?_⟩
          · refine (HRU.out.set k _).congr (fun t _ => ?_)
            by_cases ht : t = k <;> simp [ht]
          · by_cases h : a * c + b = k
            · obtain ⟨ea, eb⟩ := place_ne hb hj1 (h.trans hkk.symm)
              subst ea eb
              dsimp only
              rw [if_pos h]
              exact HX.out
            · dsimp only
              rw [if_neg h]
              refine HP2.out a b ?_ hb
              rcases hab with h1 | ⟨h1, h2⟩
              · exact Or.inl h1
              · have : b ≠ j := fun hc => h (by rw [h1, hc]; exact hkk)
                exact Or.inr ⟨h1, by omega⟩
          · simp [intOf]; omega
        · obtain rfl : j = c := by omega
          go_wp2_with fail
          have hi1 := HI.out
          refine ⟨⟨i + 1, o2, by omega, by go_num, HR2, fun a b ha hb => HP2.out a b (by omega) hb, HFW2⟩, ?_⟩
          simp [intOf]; omega
    · obtain rfl : i = r := by omega
      obtain ⟨m0, m1, m2⟩ := mcells_of HFW.out.2.1
      obtain ⟨b0, b1, b2⟩ := mcells_of HFW.out.2.2
      have fz : ∀ o, wr.frozen? ⟨rb, o, none⟩ = false := fun o => by have := HFW.out.2.2; unfold MBox at this; simp [World.frozen?, this]
      go_wp2_with fail
      refine bodyPost_ret (v := MV i c (some ⟨g, 0, none⟩) N N) (by simp [results, Try.results26, go_sem, b0, b1, b2, MV]) rfl ⟨⟨g, o, rfl, by have := hg.out; omega, ?_, HP.out⟩, ?_⟩
      · exact ((HR.out.of_block (set_keepM (Ne.symm HNE.out.2.1) _)).of_block (set_keepM (Ne.symm HNE.out.2.1) _)).of_block (set_keepM (Ne.symm HNE.out.2.1) _)
      · exact ((HFW.out.1.setCell (p := ⟨rb, 0, none⟩) (by have := hrb.out; show w.heap.size ≤ rb; omega) _).setCell (p := ⟨rb, 1, none⟩) (by have := hrb.out; show w.heap.size ≤ rb; omega) _).setCell (p := ⟨rb, 2, none⟩) (by have := hrb.out; show w.heap.size ≤ rb; omega) _
/-- A list of places in a variable. -/
def PsB (pa : Option Addr) (m pc : Nat) : Obj := .cells #[.slice pa m pc] 25
theorem pscell_of {w : World} {b : Nat} {pa : Option Addr} {m pc : Nat} (h : w.heap[b]? = some (PsB pa m pc)) : w.cell? ⟨b, 0, none⟩ = some (.slice pa m pc) := by
  unfold PsB at h
  simp [World.cell?, h]
set_option maxRecDepth 4000 in
set_option maxHeartbeats 1000000 in
theorem clo_Order (i j p0 p1 r n ka m pc a b : Nat) (sa pa : Option Addr) (f : Nat → Nat) (ps : List Int) (w : World) (h0 : w.heap[p0]? = some (MBox r r sa n ka)) (h1 : w.heap[p1]? = some (PsB pa m pc)) (ha : FnM w sa n ka f) (hp : I64At w pa m ps) (hr : r ≤ 12) (hm : m = r) (hn : n = r * r) (hi : i < r) (hj : j < r) (ea : ps.getD i 0 = (a : Int)) (eb : ps.getD j 0 = (b : Int)) (hla : a < r) (hlb : b < r) :
    Calls Try.prog 33 #[.int .i64 i, .int .i64 j, .pointer (some ⟨p0, 0, none⟩), .pointer (some ⟨p1, 0, none⟩)] w fun e w' => ∃ x : Nat, e = .returned (.float .f64 x) ∧ ((x = f (a * r + b)) ∧ x < 18446744073709551616) ∧ Below w.heap.size w w' := by
  have hlm : 0 < m := by omega
  obtain ⟨pb, po, rfl, hbl, hcl⟩ := hp.2.2 (by omega)
  have hk : a * r + b < n := by rw [hn]; exact place_lt hla hlb
  have HAT := hid (fun W (hW : Below w.heap.size w W) => at_fn r sa r n ka a b f W (ha.below hW) (by omega) (by omega) (by omega) hk)
  have HLT := hid (fn_lt ha _ hk)
  obtain ⟨x, hx⟩ : ∃ t, Hid (f (a * r + b) = t) := ⟨_, rfl⟩
  rw [hx.out] at HAT HLT
  rw [hx.out]
  unfold MV at HAT
  have hci := hcl i (by omega)
  have hcj := hcl j (by omega)
  rw [ea] at hci
  rw [eb] at hcj
  have hiI : (i : Int) < (m : Int) := by omega
  have hjI : (j : Int) < (m : Int) := by omega
  have HKS : Hid (∀ W, Hid (Below w.heap.size w W) → (W.cell? ⟨p0, 0, none⟩ = some (.int .i64 r) ∧ W.cell? ⟨p0, 1, none⟩ = some (.int .i64 r) ∧ W.cell? ⟨p0, 2, none⟩ = some (.slice sa n ka) ∧ W.cell? ⟨p1, 0, none⟩ = some (.slice (some ⟨pb, po, none⟩) m pc) ∧ W.cell? ⟨pb, po + i, none⟩ = some (.int .i64 a) ∧ W.cell? ⟨pb, po + j, none⟩ = some (.int .i64 b)) ∧ Hid (Below w.heap.size w W)) := fun W hW => by
    obtain ⟨a0, a1, a2⟩ := mcells_of ((hW.out.block p0 (Array.getElem?_eq_some_iff.1 h0).1).trans h0)
    have b0 := pscell_of ((hW.out.block p1 (Array.getElem?_eq_some_iff.1 h1).1).trans h1)
    exact ⟨⟨a0, a1, a2, b0, (hW.out.cell (p := ⟨pb, po + i, none⟩) hbl).trans hci, (hW.out.cell (p := ⟨pb, po + j, none⟩) hbl).trans hcj⟩, hW⟩
  have HQ0 : Hid (Below w.heap.size w w.drew) := (Below.refl _ _).drew
  clear h0 h1 ha hp hr hm hn hi hj ea eb hla hlb hk hcl hci hcj hbl hlm
  go_enter Try.func33, Try.ntmps33
  go_wp2_with fail
  refine wp_region_held_drew (S := fun W => (W.cell? ⟨p0, 0, none⟩ = some (.int .i64 r) ∧ W.cell? ⟨p0, 1, none⟩ = some (.int .i64 r) ∧ W.cell? ⟨p0, 2, none⟩ = some (.slice sa n ka) ∧ W.cell? ⟨p1, 0, none⟩ = some (.slice (some ⟨pb, po, none⟩) m pc) ∧ W.cell? ⟨pb, po + i, none⟩ = some (.int .i64 a) ∧ W.cell? ⟨pb, po + j, none⟩ = some (.int .i64 b)) ∧ Hid (Below w.heap.size w W)) (by kernel_rfl) (HKS.out _ HQ0) (fun hHeld => ?_)
  refine take_at 0 7 (.agg #[.int .i64 r, .int .i64 r, .slice sa n ka]) rfl rfl (by kernel_rfl) (by kernel_rfl) (by kernel_rfl) (fun _ _ _ h => h) (Or.inl ⟨by rfl, fun w hSw => by (try dsimp only at hSw); go_simp⟩) (by assumption) ?_
  simp only [Act.put, List.setIfInBounds_toArray, List.set_cons_zero, List.set_cons_succ]
  refine take_at 1 8 (.slice (some ⟨pb, po, none⟩) m pc) rfl rfl (by kernel_rfl) (by kernel_rfl) (by kernel_rfl) (fun _ _ _ h => h) (Or.inl ⟨by rfl, fun w hSw => by (try dsimp only at hSw); go_simp⟩) (by assumption) ?_
  simp only [Act.put, List.setIfInBounds_toArray, List.set_cons_zero, List.set_cons_succ]
  refine take_at 2 9 (.int .i64 i) rfl rfl (by kernel_rfl) (by kernel_rfl) (by kernel_rfl) (fun _ _ _ h => h) (Or.inl ⟨by rfl, fun w hSw => by (try dsimp only at hSw); go_simp⟩) (by assumption) ?_
  simp only [Act.put, List.setIfInBounds_toArray, List.set_cons_zero, List.set_cons_succ]
  refine take_at 3 10 (.pointer (some ⟨pb, po + i, none⟩)) rfl rfl (by kernel_rfl) (by kernel_rfl) (by kernel_rfl) (fun _ _ _ h => h) (Or.inl ⟨by rfl, fun w hSw => by (try dsimp only at hSw); go_simp⟩) (by assumption) ?_
  simp only [Act.put, List.setIfInBounds_toArray, List.set_cons_zero, List.set_cons_succ]
  refine take_at 4 11 (.int .i64 a) rfl rfl (by kernel_rfl) (by kernel_rfl) (by kernel_rfl) (fun _ _ _ h => h) (Or.inl ⟨by rfl, fun w hSw => by (try dsimp only at hSw); go_simp⟩) (by assumption) ?_
  simp only [Act.put, List.setIfInBounds_toArray, List.set_cons_zero, List.set_cons_succ]
  refine take_at 5 12 (.slice (some ⟨pb, po, none⟩) m pc) rfl rfl (by kernel_rfl) (by kernel_rfl) (by kernel_rfl) (fun _ _ _ h => h) (Or.inl ⟨by rfl, fun w hSw => by (try dsimp only at hSw); go_simp⟩) (by assumption) ?_
  simp only [Act.put, List.setIfInBounds_toArray, List.set_cons_zero, List.set_cons_succ]
  refine take_at 6 13 (.int .i64 j) rfl rfl (by kernel_rfl) (by kernel_rfl) (by kernel_rfl) (fun _ _ _ h => h) (Or.inl ⟨by rfl, fun w hSw => by (try dsimp only at hSw); go_simp⟩) (by assumption) ?_
  simp only [Act.put, List.setIfInBounds_toArray, List.set_cons_zero, List.set_cons_succ]
  refine take_at 7 14 (.pointer (some ⟨pb, po + j, none⟩)) rfl rfl (by kernel_rfl) (by kernel_rfl) (by kernel_rfl) (fun _ _ _ h => h) (Or.inl ⟨by rfl, fun w hSw => by (try dsimp only at hSw); go_simp⟩) (by assumption) ?_
  simp only [Act.put, List.setIfInBounds_toArray, List.set_cons_zero, List.set_cons_succ]
  refine take_at 8 15 (.int .i64 b) rfl rfl (by kernel_rfl) (by kernel_rfl) (by kernel_rfl) (fun _ _ _ h => h) (Or.inl ⟨by rfl, fun w hSw => by (try dsimp only at hSw); go_simp⟩) (by assumption) ?_
  simp only [Act.put, List.setIfInBounds_toArray, List.set_cons_zero, List.set_cons_succ]
  refine wpAnyH_ready (rs := [9]) (by kernel_rfl) (by simp) ?_
  refine AllReadyH.cons (o := _) rfl (fun K hK => ?_) AllReadyH.nil
  go_simp
  refine (HAT.out _ HQ0.out).mono ?_
  rintro e u1 ⟨rfl, hb1⟩
  have HB1 := hid (HQ0.out.trans (hb1.mono HQ0.out.size))
  clear hb1
  go_wp2_with fail
  refine hK.out _ _ (HKS.out _ HB1) (fun hHeld1 => ?_)
  clear hK K
  try simp only [Act.put, List.setIfInBounds_toArray, List.set_cons_zero, List.set_cons_succ]
  refine take_at 10 6 (.float .f64 x) rfl rfl (by kernel_rfl) (by kernel_rfl) (by kernel_rfl) (fun _ _ _ h => h) (Or.inl ⟨by rfl, fun w hSw => by (try dsimp only at hSw); go_simp⟩) (by assumption) ?_
  simp only [Act.put, List.setIfInBounds_toArray, List.set_cons_zero, List.set_cons_succ]
  refine wpAnyH_done (by kernel_rfl) ?_ _
  go_wp2_with fail
  go_ret
  exact ⟨_, rfl, ⟨rfl, HLT.out⟩, HB1.out⟩
set_option maxRecDepth 4000 in
set_option maxHeartbeats 1000000 in
theorem Order_ok (r n ka pc : Nat) (sa pa : Option Addr) (f : Nat → Nat) (ps : List Int) (w : World) (ha : Gd w r r sa n ka f) (hp : I64At w pa r ps) (ho : ordB r ps r = true) :
    Calls Try.prog 12 #[MV r r sa n ka, .slice pa r pc] w fun e w' => (∃ (g : Nat) (o : Nat → Nat), e = .returned (.tuple #[.agg #[.int .i64 r, .int .i64 r, .slice (some ⟨g, 0, none⟩) (r * r) (r * r)], .int .i64 0]) ∧ FnM w' (some ⟨g, 0, none⟩) (r * r) (r * r) o ∧ ∀ u v, u < r → v < r → o (u * r + v) = f ((ps.getD u 0).toNat * r + (ps.getD v 0).toNat)) ∧ Below w.heap.size w w' := by
  obtain ⟨t1, t2, t3, t4, t5⟩ := three_b w (MBox r r sa n ka) (PsB pa r pc) (MBox 0 0 none 0 0)
  have HCS := hid (fun W (hW : Below w.heap.size w W) => square_good r r n sa ka f W (ha.below hW))
  rw [if_pos rfl] at HCS
  have HIO := hid (fun W (hW : Below w.heap.size w W) => isOrder_any pa r pc ps W (hp.belo hW) ha.1)
  rw [ho] at HIO
  have l1 := ha.1
  have hne : ((r : Int) != (r : Int)) = false := by simp
  have hm1 : r * r ≤ 144 := Nat.mul_le_mul l1 l1
  have HM1 : Hid (r * r ≤ 144) := hm1
  have HFI := hid (fun W (hW : Below (((w.alloc (MBox r r sa n ka)).alloc (PsB pa r pc)).alloc (MBox 0 0 none 0 0)).heap.size (((w.alloc (MBox r r sa n ka)).alloc (PsB pa r pc)).alloc (MBox 0 0 none 0 0)) W) => fill_Order r r (by omega) (by omega) ⟨w.heap.size, 0, none⟩ ⟨w.heap.size + 1, 0, none⟩ (fun u v x => x = f ((ps.getD u 0).toNat * r + (ps.getD v 0).toNat)) W (fun W2 i j hW2 hi hj => by
    obtain ⟨q1, q2⟩ := ord_at ho hi
    obtain ⟨q3, q4⟩ := ord_at ho hj
    exact clo_Order i j w.heap.size (w.heap.size + 1) r n ka r pc (ps.getD i 0).toNat (ps.getD j 0).toNat sa pa f ps W2 (blkM (blkM t1 hW) hW2) (blkM (blkM t2 hW) hW2) (((ha.2.2.2.1.below t4).below hW).below hW2) (((hp.belo t4).belo hW).belo hW2) l1 rfl ha.2.2.1 hi hj (by omega) (by omega) (by omega) (by omega)))
  obtain ⟨V, hV⟩ : ∃ V, Hid (((w.alloc (MBox r r sa n ka)).alloc (PsB pa r pc)).alloc (MBox 0 0 none 0 0) = V) := ⟨_, rfl⟩
  rw [hV.out] at HFI t1 t2 t3 t4 t5
  have hV' := hV.out
  have HB := hid t4
  have HR := hid t3
  have HA0 := hid t1
  have HA1 := hid t2
  obtain ⟨x0, x1, x2⟩ := mcells_of t1
  have v0 := pscell_of t2
  unfold MBox PsB at hV'
  unfold MV at HCS ⊢
  clear t1 t2 t3 t4 t5 ha hp l1 hm1 ho
  go_enter Try.func12, Try.ntmps12
  go_wp2_with fail
  refine (HCS.out _ HB.out).mono ?_
  rintro e w1 ⟨rfl, hb1⟩
  have HB1 := hid (HB.out.trans (hb1.mono HB.out.size))
  have HR1 := hid (blkM HR.out hb1)
  have HX0 := hid (blkM HA0.out hb1)
  have HX1 := hid (blkM HA1.out hb1)
  have HV1 := hid hb1
  obtain ⟨x0, x1, x2⟩ := mcells_of HX0.out
  have v0 := pscell_of HX1.out
  clear hb1
  go_wp2_with fail
  refine (HIO.out _ HB1.out).mono ?_
  rintro e w2 ⟨rfl, hb2⟩
  have HB2 := hid (HB1.out.trans (hb2.mono HB1.out.size))
  have HR2 := hid (blkM HR1.out hb2)
  have HFF := hid (HFI.out _ (HV1.out.trans (hb2.mono HV1.out.size)))
  obtain ⟨x0, x1, x2⟩ := mcells_of (blkM HX0.out hb2)
  have v0 := pscell_of (blkM HX1.out hb2)
  clear hb2
  go_wp2_with fail
  refine HFF.out.mono ?_
  rintro e w3 ⟨hfi, hb3⟩
  obtain ⟨g1, o1, rfl, hg1, hf1, hp1⟩ := hfi.fn (by have := HM1.out; omega)
  have HB3 := hid (HB2.out.trans (hb3.mono HB2.out.size))
  have HR3 := hid (blkM HR2.out hb3)
  have HF1 := hid hf1
  have HP1 := hid hp1
  obtain ⟨r0, r1, r2⟩ := mcells_of HR3.out
  have fz := frzM HR3.out
  unfold MV
  clear hb3 hfi hg1 hf1 hp1
  go_wp2_with fail
  exact bodyPost_ret (v := .tuple #[.agg #[.int .i64 r, .int .i64 r, .slice (some ⟨g1, 0, none⟩) (r * r) (r * r)], .int .i64 0]) (by simp [results, Try.results12, go_sem, r0, r1, r2]) rfl ⟨⟨g1, o1, rfl, StoM.fn HF1.out HR3.out, HP1.out⟩, StoM.below HB3.out (by omega)⟩
set_option maxRecDepth 4000 in
set_option maxHeartbeats 1000000 in
theorem Order_bad (rx cx : Int) (n ka m pc : Nat) (sa pa : Option Addr) (E : Int) (w : World) (hS : ∀ W, Below w.heap.size w W → Calls Try.prog 31 #[MV rx cx sa n ka] W fun e w' => e = .returned (.int .i64 E) ∧ Below W.heap.size W w') (hE : E ≠ 0) :
    Calls Try.prog 12 #[MV rx cx sa n ka, .slice pa m pc] w fun e w' => e = .returned (NonM E) ∧ Below w.heap.size w w' := by
  obtain ⟨t1, t2, t3, t4, t5⟩ := three_b w (MBox rx cx sa n ka) (PsB pa m pc) (MBox 0 0 none 0 0)
  have HCS := hid hS
  have hne : (E != 0) = true := by simpa using hE
  obtain ⟨V, hV⟩ : ∃ V, Hid (((w.alloc (MBox rx cx sa n ka)).alloc (PsB pa m pc)).alloc (MBox 0 0 none 0 0) = V) := ⟨_, rfl⟩
  rw [hV.out] at t1 t2 t3 t4 t5
  have hV' := hV.out
  have HB := hid t4
  have HR := hid t3
  have HA0 := hid t1
  have HA1 := hid t2
  obtain ⟨x0, x1, x2⟩ := mcells_of t1
  have v0 := pscell_of t2
  unfold MBox PsB at hV'
  unfold NonM
  unfold MV at HCS ⊢
  clear t1 t2 t3 t4 t5 hS hE
  go_enter Try.func12, Try.ntmps12
  go_wp2_with fail
  refine (HCS.out _ HB.out).mono ?_
  rintro e w1 ⟨rfl, hb1⟩
  have HB1 := hid (HB.out.trans (hb1.mono HB.out.size))
  have HR1 := hid (blkM HR.out hb1)
  obtain ⟨x0, x1, x2⟩ := mcells_of (blkM HA0.out hb1)
  have v0 := pscell_of (blkM HA1.out hb1)
  clear hb1
  go_wp2_with fail
  refine (refused_any E _).mono ?_
  rintro e w2 ⟨rfl, hb2⟩
  have HB2 := hid (HB1.out.trans (hb2.mono HB1.out.size))
  have HR2 := hid (blkM HR1.out hb2)
  obtain ⟨r0, r1, r2⟩ := mcells_of HR2.out
  have fz := frzM HR2.out
  unfold MV
  clear hb2
  go_wp2_with fail
  exact bodyPost_ret (v := .tuple #[MV 0 0 none 0 0, .int .i64 E]) (by simp [results, Try.results12, go_sem, r0, r1, r2, MV]) rfl ⟨rfl, StoM.below HB2.out (by omega)⟩
set_option maxRecDepth 4000 in
set_option maxHeartbeats 1000000 in
theorem Order_len (r n ka m pc : Nat) (sa pa : Option Addr) (f : Nat → Nat) (w : World) (ha : Gd w r r sa n ka f) (hl : m ≠ r) :
    Calls Try.prog 12 #[MV r r sa n ka, .slice pa m pc] w fun e w' => e = .returned (NonM 3) ∧ Below w.heap.size w w' := by
  obtain ⟨t1, t2, t3, t4, t5⟩ := three_b w (MBox r r sa n ka) (PsB pa m pc) (MBox 0 0 none 0 0)
  have HCS := hid (fun W (hW : Below w.heap.size w W) => square_good r r n sa ka f W (ha.below hW))
  rw [if_pos rfl] at HCS
  have hne : ((m : Int) != (r : Int)) = true := by simp; omega
  obtain ⟨V, hV⟩ : ∃ V, Hid (((w.alloc (MBox r r sa n ka)).alloc (PsB pa m pc)).alloc (MBox 0 0 none 0 0) = V) := ⟨_, rfl⟩
  rw [hV.out] at t1 t2 t3 t4 t5
  have hV' := hV.out
  have HB := hid t4
  have HR := hid t3
  have HA0 := hid t1
  have HA1 := hid t2
  obtain ⟨x0, x1, x2⟩ := mcells_of t1
  have v0 := pscell_of t2
  unfold MBox PsB at hV'
  unfold NonM
  unfold MV at HCS ⊢
  clear t1 t2 t3 t4 t5 ha hl
  go_enter Try.func12, Try.ntmps12
  go_wp2_with fail
  refine (HCS.out _ HB.out).mono ?_
  rintro e w1 ⟨rfl, hb1⟩
  have HB1 := hid (HB.out.trans (hb1.mono HB.out.size))
  have HR1 := hid (blkM HR.out hb1)
  obtain ⟨x0, x1, x2⟩ := mcells_of (blkM HA0.out hb1)
  have v0 := pscell_of (blkM HA1.out hb1)
  clear hb1
  go_wp2_with fail
  refine (refused_any 3 _).mono ?_
  rintro e w2 ⟨rfl, hb2⟩
  have HB2 := hid (HB1.out.trans (hb2.mono HB1.out.size))
  have HR2 := hid (blkM HR1.out hb2)
  obtain ⟨r0, r1, r2⟩ := mcells_of HR2.out
  have fz := frzM HR2.out
  unfold MV
  clear hb2
  go_wp2_with fail
  exact bodyPost_ret (v := .tuple #[MV 0 0 none 0 0, .int .i64 3]) (by simp [results, Try.results12, go_sem, r0, r1, r2, MV]) rfl ⟨rfl, StoM.below HB2.out (by omega)⟩
set_option maxRecDepth 4000 in
set_option maxHeartbeats 1000000 in
theorem Order_range (r n ka m pc : Nat) (sa pa : Option Addr) (f : Nat → Nat) (ps : List Int) (w : World) (ha : Gd w r r sa n ka f) (hl : m = r) (hp : I64At w pa m ps) (ho : ordB m ps m = false) :
    Calls Try.prog 12 #[MV r r sa n ka, .slice pa m pc] w fun e w' => e = .returned (NonM 1) ∧ Below w.heap.size w w' := by
  obtain ⟨t1, t2, t3, t4, t5⟩ := three_b w (MBox r r sa n ka) (PsB pa m pc) (MBox 0 0 none 0 0)
  have HCS := hid (fun W (hW : Below w.heap.size w W) => square_good r r n sa ka f W (ha.below hW))
  rw [if_pos rfl] at HCS
  have hne : ((m : Int) != (r : Int)) = false := by simp; omega
  have HIO := hid (fun W (hW : Below w.heap.size w W) => isOrder_any pa m pc ps W (hp.belo hW) (by have := ha.1; omega))
  rw [ho] at HIO
  obtain ⟨V, hV⟩ : ∃ V, Hid (((w.alloc (MBox r r sa n ka)).alloc (PsB pa m pc)).alloc (MBox 0 0 none 0 0) = V) := ⟨_, rfl⟩
  rw [hV.out] at t1 t2 t3 t4 t5
  have hV' := hV.out
  have HB := hid t4
  have HR := hid t3
  have HA0 := hid t1
  have HA1 := hid t2
  obtain ⟨x0, x1, x2⟩ := mcells_of t1
  have v0 := pscell_of t2
  unfold MBox PsB at hV'
  unfold NonM
  unfold MV at HCS ⊢
  clear t1 t2 t3 t4 t5 ha hp hl ho
  go_enter Try.func12, Try.ntmps12
  go_wp2_with fail
  refine (HCS.out _ HB.out).mono ?_
  rintro e w1 ⟨rfl, hb1⟩
  have HB1 := hid (HB.out.trans (hb1.mono HB.out.size))
  have HR1 := hid (blkM HR.out hb1)
  obtain ⟨x0, x1, x2⟩ := mcells_of (blkM HA0.out hb1)
  have v0 := pscell_of (blkM HA1.out hb1)
  clear hb1
  go_wp2_with fail
  refine (HIO.out _ HB1.out).mono ?_
  rintro e w3 ⟨rfl, hb3⟩
  replace HB1 := hid (HB1.out.trans (hb3.mono HB1.out.size))
  replace HR1 := hid (blkM HR1.out hb3)
  clear hb3
  go_wp2_with fail
  refine (refused_any 1 _).mono ?_
  rintro e w2 ⟨rfl, hb2⟩
  have HB2 := hid (HB1.out.trans (hb2.mono HB1.out.size))
  have HR2 := hid (blkM HR1.out hb2)
  obtain ⟨r0, r1, r2⟩ := mcells_of HR2.out
  have fz := frzM HR2.out
  unfold MV
  clear hb2
  go_wp2_with fail
  exact bodyPost_ret (v := .tuple #[MV 0 0 none 0 0, .int .i64 1]) (by simp [results, Try.results12, go_sem, r0, r1, r2, MV]) rfl ⟨rfl, StoM.below HB2.out (by omega)⟩
end Go.Proofs.Ytehgiegmdpaomaa
