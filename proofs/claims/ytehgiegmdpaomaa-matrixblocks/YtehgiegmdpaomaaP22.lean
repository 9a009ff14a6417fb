
/- matrix: mirrored, of each of its closures. (Written by mkmx.py.) -/
import Derived.Test.YtehgiegmdpaomaaP21
namespace Go.Proofs.Ytehgiegmdpaomaa
open Go.RowKit Go.IntWalk

/-- One place and the one mirrored. -/
def MirP (P : Nat → Nat → Nat → Prop) (n : Nat) (o : Nat → Nat) (a b : Nat) : Prop := (P a b (o (a * n + b)) ∧ o (a * n + b) < 18446744073709551616) ∧ o (b * n + a) = o (a * n + b)
def MirR (P : Nat → Nat → Nat → Prop) (n N B : Nat) (e : Ending) (w' : World) : Prop := ∃ (g : Nat) (o : Nat → Nat), e = .returned (MV n n (some ⟨g, 0, none⟩) N N) ∧ B ≤ g ∧ w'.rowIs g 42 N (fun k => .float .f64 (o k)) ∧ ∀ i j, i < n → j ≤ i → MirP P n o i j
theorem mir_step {P : Nat → Nat → Nat → Prop} {n i j k l x : Nat} {o2 : Nat → Nat} (hj1 : j < i + 1) (hi1 : i < n) (hk : i * n + j = k) (hl : j * n + i = l) (hX : ∀ {y : Nat}, y = x → P i j y ∧ y < 18446744073709551616) {a b : Nat} (hab : a < i ∨ (a = i ∧ b < j + 1)) (hb : b ≤ a) (ho : ∀ a b, (a < i ∨ (a = i ∧ b < j)) → b ≤ a → MirP P n o2 a b) :
    MirP P n (fun t => if t = l then x else if t = k then x else o2 t) a b := by
  have ha : a < n := by omega
  have hbn : b < n := by omega
  have hjn : j < n := by omega
  by_cases h : a = i ∧ b = j
  · obtain ⟨rfl, rfl⟩ := h
    have e1 : (if a * n + b = l then x else if a * n + b = k then x else o2 (a * n + b)) = x := by
      by_cases c : a * n + b = l
      · rw [if_pos c]
      · rw [if_neg c, if_pos hk]
    have e2 : (if b * n + a = l then x else if b * n + a = k then x else o2 (b * n + a)) = x := by rw [if_pos hl]
    exact ⟨hX e1, by dsimp only; rw [e1, e2]⟩
  · have n1 : a * n + b ≠ k := fun c => h (place_ne hbn hjn (c.trans hk.symm))
    have n2 : a * n + b ≠ l := fun c => by
      have := place_ne hbn hi1 (c.trans hl.symm)
      exact h ⟨by omega, by omega⟩
    have n3 : b * n + a ≠ k := fun c => by
      have := place_ne ha hjn (c.trans hk.symm)
      exact h ⟨by omega, by omega⟩
    have n4 : b * n + a ≠ l := fun c => by
      have := place_ne ha hi1 (c.trans hl.symm)
      exact h ⟨by omega, by omega⟩
    have e1 : (if a * n + b = l then x else if a * n + b = k then x else o2 (a * n + b)) = o2 (a * n + b) := by rw [if_neg n2, if_neg n1]
    have e2 : (if b * n + a = l then x else if b * n + a = k then x else o2 (b * n + a)) = o2 (b * n + a) := by rw [if_neg n4, if_neg n3]
    obtain ⟨q1, q2⟩ := ho a b (by omega) hb
    exact ⟨by dsimp only; rw [e1]; exact q1, by dsimp only; rw [e1, e2]; exact q2⟩
set_option maxRecDepth 4000 in
set_option maxHeartbeats 4000000 in
theorem mir_Mean (n : Nat) (hn : n ≤ 100) (p0 : Addr) (P : Nat → Nat → Nat → Prop) (w : World)
    (hF : ∀ W i j, Below w.heap.size w W → i < n → j ≤ i → Calls Try.prog 41 #[.int .i64 (i : Nat), .int .i64 (j : Nat), .pointer (some p0)] W fun e w' => ∃ x : Nat, e = .returned (.float .f64 x) ∧ (P i j x ∧ x < 18446744073709551616) ∧ Below W.heap.size W w') :
    Calls Try.prog 40 #[.int .i64 n, .func (.func 41) #[] #[.pointer (some p0)]] w fun e w' => MirR P n (n * n) w.heap.size e w' ∧ Below w.heap.size w w' := by
  have HF := hid hF
  have hst := fstoreM
  have hpp : n * n ≤ 10000 := Nat.mul_le_mul hn hn
  have HZ := hid (fun W => zeros_any n n hn hn W)
  have HPL : Hid (∀ i j, i < n → j < n → i * n + j < n * n) := fun i j hi hj => place_lt hi hj
  obtain ⟨N, hN⟩ : ∃ p, Hid (n * n = p) := ⟨_, rfl⟩
  rw [hN.out] at hpp HZ HPL ⊢
  clear hF
  go_enter Try.func40, Try.ntmps40
  go_wp2_with fail
  refine (HZ.out _).mono ?_
  rintro e w1 ⟨rfl, h1, h2⟩
  rw [World.size_alloc] at h1 ⊢
  have HSZ : Hid (w.heap.size + 1 + 1 < w1.heap.size) := h1.lt
  have hal : Below w1.heap.size w1 (w1.alloc (MBox n n (some ⟨w.heap.size + 1 + 1, 0, none⟩) N N)) := (Below.refl _ _).alloc (Nat.le_refl _) _
  have HFR : Hid (FrF w (w1.alloc (MBox n n (some ⟨w.heap.size + 1 + 1, 0, none⟩) N N)) w1.heap.size w.heap.size (MBox n n (some ⟨w.heap.size + 1 + 1, 0, none⟩) N N) (MBox 0 0 none 0 0)) :=
    ⟨(((Below.refl _ _).alloc (Nat.le_refl _) _).trans (h2.mono (by simp))).alloc (by have := HSZ.out; omega) _, nblkM _ _, (hal.block _ (by have := HSZ.out; omega)).trans ((h2.block _ (by simp)).trans (nblkM _ _))⟩
  have HR0 : Hid ((w1.alloc (MBox n n (some ⟨w.heap.size + 1 + 1, 0, none⟩) N N)).rowIs (w.heap.size + 1 + 1) 42 N (fun _ => .float .f64 0)) := h1.of_block (hal.block _ HSZ.out)
  obtain ⟨V1, hV1⟩ : ∃ V, Hid (w1.alloc (MBox n n (some ⟨w.heap.size + 1 + 1, 0, none⟩) N N) = V) := ⟨_, rfl⟩
  rw [hV1.out] at HFR HR0
  have hW1 := hV1.out
  obtain ⟨mb, hmb⟩ : ∃ V, Hid (w1.heap.size = V) := ⟨_, rfl⟩
  obtain ⟨rb, hrb⟩ : ∃ V, Hid (w.heap.size = V) := ⟨_, rfl⟩
  obtain ⟨g, hg⟩ : ∃ V, Hid (rb + 1 + 1 = V) := ⟨_, rfl⟩
  have HNE : Hid (mb ≠ g ∧ rb ≠ g ∧ w.heap.size ≤ g) := by
    have e1 := hmb.out; have e2 := hrb.out; have e3 := hg.out; have e4 := HSZ.out
    show _ ∧ _ ∧ _
    omega
  rw [hmb.out, hrb.out] at HFR
  rw [hrb.out] at HR0 hW1 ⊢
  rw [hg.out] at HFR HR0 hW1 ⊢
  have hmb1 := hmb.out
  have hrb1 := hrb.out
  unfold MBox at hW1
  unfold MV
  clear h1 h2 hal HZ
  go_wp2_with fail
  go_loopw [13] (fun iv wr => ∃ (i : Nat) (o : Nat → Nat), i ≤ n ∧ iv = .int .i64 i ∧ Hid (wr.rowIs g 42 N (fun k => .float .f64 (o k))) ∧ Hid (∀ a b, a < i → b ≤ a → MirP P n o a b) ∧ Hid (FrF w wr mb rb (MBox n n (some ⟨g, 0, none⟩) N N) (MBox 0 0 none 0 0))) (fun iv _ => n - (intOf iv).toNat)
  case atStart => exact ⟨0, fun _ => 0, Nat.zero_le _, rfl, HR0, fun a b ha => absurd ha (Nat.not_lt_zero a), HFR⟩
  case round =>
    obtain ⟨i, o, hi, rfl, HR, HP, HFW⟩ := hrel
    by_cases hlt : i < n
    · have hiI : (i : Int) < (n : Int) := by omega
      have HI := hid hlt
      clear hlt
      go_wp2_with fail
      go_loopw [18] (fun jv wr2 => ∃ (j : Nat) (o2 : Nat → Nat), j ≤ i + 1 ∧ jv = .int .i64 j ∧ Hid (wr2.rowIs g 42 N (fun k => .float .f64 (o2 k))) ∧ Hid (∀ a b, (a < i ∨ (a = i ∧ b < j)) → b ≤ a → MirP P n o2 a b) ∧ Hid (FrF w wr2 mb rb (MBox n n (some ⟨g, 0, none⟩) N N) (MBox 0 0 none 0 0))) (fun jv _ => i + 1 - (intOf jv).toNat)
      case atStart => exact ⟨0, o, Nat.zero_le _, rfl, HR, fun a b hab hb => HP.out a b (by rcases hab with h | ⟨_, h⟩ <;> omega) hb, HFW⟩
      case round =>
        obtain ⟨j, o2, hj, rfl, HR2, HP2, HFW2⟩ := hrel
        by_cases hl2 : j < i + 1
        · have hjI : (j : Int) < (i : Int) + 1 := by omega
          have hkN := HPL.out i j HI.out (by have := HI.out; omega)
          have hlN := HPL.out j i (by have := HI.out; omega) HI.out
          have e1 : (i : Int) * (n : Int) = ((i * n : Nat) : Int) := by simp
          have e2 : (j : Int) * (n : Int) = ((j * n : Nat) : Int) := by simp
          have hkk : ∃ p q k l : Nat, Hid (i * n = p) ∧ Hid (j * n = q) ∧ Hid (p + j = k) ∧ Hid (q + i = l) := ⟨_, _, _, _, rfl, rfl, rfl, rfl⟩
          obtain ⟨p, q, k, l, hp, hq, hk', hl'⟩ := hkk
          rw [hp.out] at e1 hkN
          rw [hq.out] at e2 hlN
          rw [hk'.out] at hkN
          rw [hl'.out] at hlN
          have e3 : (p : Int) + (j : Int) = (k : Int) := by have := hk'.out; omega
          have e4 : (q : Int) + (i : Int) = (l : Int) := by have := hl'.out; omega
          have w1' := wrapM p (by have := hk'.out; omega)
          have w2' := wrapM q (by have := hl'.out; omega)
          have w3' := wrapM k (by omega)
          have w4' := wrapM l (by omega)
          have k0 : (0 : Int) ≤ (k : Int) := by omega
          have k1 : (k : Int) < (N : Int) := by omega
          have l0 : (0 : Int) ≤ (l : Int) := by omega
          have l1 : (l : Int) < (N : Int) := by omega
          have HCALL := hid (HF.out wr i j HFW2.out.1 HI.out (by omega))
          have HJ := hid hl2
          have HKN := hid (And.intro hkN hlN)
          have HIJ : Hid (i * n + j = k ∧ j * n + i = l) := ⟨by rw [hp.out, hk'.out], by rw [hq.out, hl'.out]⟩
          clear hl2 hkN hlN
          go_wp2_with fail
          refine HCALL.out.mono ?_
          rintro e u1 ⟨x, rfl, hx, hb1⟩
          have HX := hid hx
          have HFU := hid (HFW2.out.call hb1)
          have HRU : Hid (u1.rowIs g 42 N (fun k => .float .f64 (o2 k))) := HR2.out.of_block (hb1.block _ HR2.out.lt)
          have m2 : u1.cell? ⟨mb, 2, none⟩ = some (.slice (some ⟨g, 0, none⟩) N N) := (mcells_of HFU.out.2.1).2.2
          have hng := HNE.out.1
          have hng2 := Ne.symm hng
          have cx := HRU.out.cell (i := k) HKN.out.1
          have cl := HRU.out.cell (i := l) HKN.out.2
          have fx := HRU.out.frozen k
          have fl := HRU.out.frozen l
          clear hx hb1
          have HEND : Hid (∀ V, V.heap = ((u1.setCell ⟨g, k, none⟩ (.float .f64 x)).setCell ⟨g, l, none⟩ (.float .f64 x)).heap → Below w.heap.size w V → ∃ (j_1 : Nat) (o3 : Nat → Nat), j_1 ≤ i + 1 ∧ Value.int IntKind.i64 ((j : Int) + 1) = Value.int IntKind.i64 j_1 ∧ Hid (V.rowIs g 42 N (fun k => .float .f64 (o3 k))) ∧ Hid (∀ a b, (a < i ∨ (a = i ∧ b < j_1)) → b ≤ a → MirP P n o3 a b) ∧ Hid (FrF w V mb rb (MBox n n (some ⟨g, 0, none⟩) N N) (MBox 0 0 none 0 0))) := fun V hV hB => by
            have hj1 := HJ.out
            have hi1 := HI.out
            refine ⟨j + 1, fun t => if t = l then x else if t = k then x else o2 t, by omega, by go_num, ?_, ?_, ?_⟩
            · have h0 : ((u1.setCell ⟨g, k, none⟩ (.float .f64 x)).setCell ⟨g, l, none⟩ (.float .f64 x)).rowIs g 42 N (fun t => .float .f64 (if t = l then x else if t = k then x else o2 t)) := by
                refine ((HRU.out.set k _).set l _).congr (fun t _ => ?_)
                by_cases ht : t = l
                · simp [ht]
                · by_cases ht2 : t = k <;> simp [ht, ht2]
              exact h0.of_block (by rw [hV])
            · intro a b hab hb
              exact mir_step hj1 hi1 HIJ.out.1 HIJ.out.2 (fun h => by subst h; exact HX.out) hab hb (fun a b h1 h2 => HP2.out a b h1 h2)
            · exact ⟨hB, by rw [hV]; exact ((HFU.out.set HNE.out.1 HNE.out.2.1 HNE.out.2.2 _).set HNE.out.1 HNE.out.2.1 HNE.out.2.2 _).2.1, by rw [hV]; exact ((HFU.out.set HNE.out.1 HNE.out.2.1 HNE.out.2.2 _).set HNE.out.1 HNE.out.2.1 HNE.out.2.2 _).2.2⟩
          have HBU : Hid (∀ V, Below w.heap.size w V → Below w.heap.size w ((V.setCell ⟨g, k, none⟩ (.float .f64 x)).setCell ⟨g, l, none⟩ (.float .f64 x))) := fun V hV => (hV.setCell (p := ⟨g, k, none⟩) HNE.out.2.2 _).setCell (p := ⟨g, l, none⟩) HNE.out.2.2 _
          by_cases hkl : k = l
          · subst hkl
            go_wp2_with fail
            go_region_held3 (fun W => W.cell? ⟨mb, 2, none⟩ = some (.slice (some ⟨g, 0, none⟩) N N)) (go_keep) (fail)
            go_wp2_with fail
            refine ⟨HEND.out _ rfl (HBU.out _ (HFU.out.1.drew)), ?_⟩
            have hj1 := HJ.out
            simp [intOf]; omega
          · have hlk : ¬ l = k := fun h => hkl h.symm
            go_wp2_with fail
            go_region_held3 (fun W => W.cell? ⟨mb, 2, none⟩ = some (.slice (some ⟨g, 0, none⟩) N N)) (go_keep) (fail)
            go_wp2_with fail
            refine ⟨HEND.out _ rfl (HBU.out _ (HFU.out.1.drew)), ?_⟩
            have hj1 := HJ.out
            simp [intOf]; omega
        · obtain rfl : j = i + 1 := by omega
          go_wp2_with fail
          have hi1 := HI.out
          refine ⟨⟨i + 1, o2, by omega, by go_num, HR2, fun a b ha hb => HP2.out a b (by omega) hb, HFW2⟩, ?_⟩
          simp [intOf]; omega
    · obtain rfl : i = n := by omega
      obtain ⟨m0, m1, m2⟩ := mcells_of HFW.out.2.1
      obtain ⟨b0, b1, b2⟩ := mcells_of HFW.out.2.2
      have fz : ∀ o, wr.frozen? ⟨rb, o, none⟩ = false := fun o => by have := HFW.out.2.2; unfold MBox at this; simp [World.frozen?, this]
      go_wp2_with fail
      refine bodyPost_ret (v := MV i i (some ⟨g, 0, none⟩) N N) (by simp [results, Try.results40, go_sem, b0, b1, b2, MV]) rfl ⟨⟨g, o, rfl, by have := hg.out; omega, ?_, HP.out⟩, ?_⟩
      · exact ((HR.out.of_block (set_keepM (Ne.symm HNE.out.2.1) _)).of_block (set_keepM (Ne.symm HNE.out.2.1) _)).of_block (set_keepM (Ne.symm HNE.out.2.1) _)
      · exact ((HFW.out.1.setCell (p := ⟨rb, 0, none⟩) (by have := hrb.out; show w.heap.size ≤ rb; omega) _).setCell (p := ⟨rb, 1, none⟩) (by have := hrb.out; show w.heap.size ≤ rb; omega) _).setCell (p := ⟨rb, 2, none⟩) (by have := hrb.out; show w.heap.size ≤ rb; omega) _
set_option maxRecDepth 4000 in
set_option maxHeartbeats 4000000 in
theorem mir_Sandwich (n : Nat) (hn : n ≤ 100) (p0 p1 : Addr) (P : Nat → Nat → Nat → Prop) (w : World)
    (hF : ∀ W i j, Below w.heap.size w W → i < n → j ≤ i → Calls Try.prog 42 #[.int .i64 (i : Nat), .int .i64 (j : Nat), .pointer (some p0), .pointer (some p1)] W fun e w' => ∃ x : Nat, e = .returned (.float .f64 x) ∧ (P i j x ∧ x < 18446744073709551616) ∧ Below W.heap.size W w') :
    Calls Try.prog 40 #[.int .i64 n, .func (.func 42) #[] #[.pointer (some p0), .pointer (some p1)]] w fun e w' => MirR P n (n * n) w.heap.size e w' ∧ Below w.heap.size w w' := by
  have HF := hid hF
  have hst := fstoreM
  have hpp : n * n ≤ 10000 := Nat.mul_le_mul hn hn
  have HZ := hid (fun W => zeros_any n n hn hn W)
  have HPL : Hid (∀ i j, i < n → j < n → i * n + j < n * n) := fun i j hi hj => place_lt hi hj
  obtain ⟨N, hN⟩ : ∃ p, Hid (n * n = p) := ⟨_, rfl⟩
  rw [hN.out] at hpp HZ HPL ⊢
  clear hF
  go_enter Try.func40, Try.ntmps40
  go_wp2_with fail
  refine (HZ.out _).mono ?_
  rintro e w1 ⟨rfl, h1, h2⟩
  rw [World.size_alloc] at h1 ⊢
  have HSZ : Hid (w.heap.size + 1 + 1 < w1.heap.size) := h1.lt
  have hal : Below w1.heap.size w1 (w1.alloc (MBox n n (some ⟨w.heap.size + 1 + 1, 0, none⟩) N N)) := (Below.refl _ _).alloc (Nat.le_refl _) _
  have HFR : Hid (FrF w (w1.alloc (MBox n n (some ⟨w.heap.size + 1 + 1, 0, none⟩) N N)) w1.heap.size w.heap.size (MBox n n (some ⟨w.heap.size + 1 + 1, 0, none⟩) N N) (MBox 0 0 none 0 0)) :=
    ⟨(((Below.refl _ _).alloc (Nat.le_refl _) _).trans (h2.mono (by simp))).alloc (by have := HSZ.out; omega) _, nblkM _ _, (hal.block _ (by have := HSZ.out; omega)).trans ((h2.block _ (by simp)).trans (nblkM _ _))⟩
  have HR0 : Hid ((w1.alloc (MBox n n (some ⟨w.heap.size + 1 + 1, 0, none⟩) N N)).rowIs (w.heap.size + 1 + 1) 42 N (fun _ => .float .f64 0)) := h1.of_block (hal.block _ HSZ.out)
  obtain ⟨V1, hV1⟩ : ∃ V, Hid (w1.alloc (MBox n n (some ⟨w.heap.size + 1 + 1, 0, none⟩) N N) = V) := ⟨_, rfl⟩
  rw [hV1.out] at HFR HR0
  have hW1 := hV1.out
  obtain ⟨mb, hmb⟩ : ∃ V, Hid (w1.heap.size = V) := ⟨_, rfl⟩
  obtain ⟨rb, hrb⟩ : ∃ V, Hid (w.heap.size = V) := ⟨_, rfl⟩
  obtain ⟨g, hg⟩ : ∃ V, Hid (rb + 1 + 1 = V) := ⟨_, rfl⟩
  have HNE : Hid (mb ≠ g ∧ rb ≠ g ∧ w.heap.size ≤ g) := by
    have e1 := hmb.out; have e2 := hrb.out; have e3 := hg.out; have e4 := HSZ.out
    show _ ∧ _ ∧ _
    omega
  rw [hmb.out, hrb.out] at HFR
  rw [hrb.out] at HR0 hW1 ⊢
  rw [hg.out] at HFR HR0 hW1 ⊢
  have hmb1 := hmb.out
  have hrb1 := hrb.out
  unfold MBox at hW1
  unfold MV
  clear h1 h2 hal HZ
  go_wp2_with fail
  go_loopw [13] (fun iv wr => ∃ (i : Nat) (o : Nat → Nat), i ≤ n ∧ iv = .int .i64 i ∧ Hid (wr.rowIs g 42 N (fun k => .float .f64 (o k))) ∧ Hid (∀ a b, a < i → b ≤ a → MirP P n o a b) ∧ Hid (FrF w wr mb rb (MBox n n (some ⟨g, 0, none⟩) N N) (MBox 0 0 none 0 0))) (fun iv _ => n - (intOf iv).toNat)
  case atStart => exact ⟨0, fun _ => 0, Nat.zero_le _, rfl, HR0, fun a b ha => absurd ha (Nat.not_lt_zero a), HFR⟩
  case round =>
    obtain ⟨i, o, hi, rfl, HR, HP, HFW⟩ := hrel
    by_cases hlt : i < n
    · have hiI : (i : Int) < (n : Int) := by omega
      have HI := hid hlt
      clear hlt
      go_wp2_with fail
      go_loopw [18] (fun jv wr2 => ∃ (j : Nat) (o2 : Nat → Nat), j ≤ i + 1 ∧ jv = .int .i64 j ∧ Hid (wr2.rowIs g 42 N (fun k => .float .f64 (o2 k))) ∧ Hid (∀ a b, (a < i ∨ (a = i ∧ b < j)) → b ≤ a → MirP P n o2 a b) ∧ Hid (FrF w wr2 mb rb (MBox n n (some ⟨g, 0, none⟩) N N) (MBox 0 0 none 0 0))) (fun jv _ => i + 1 - (intOf jv).toNat)
      case atStart => exact ⟨0, o, Nat.zero_le _, rfl, HR, fun a b hab hb => HP.out a b (by rcases hab with h | ⟨_, h⟩ <;> omega) hb, HFW⟩
      case round =>
        obtain ⟨j, o2, hj, rfl, HR2, HP2, HFW2⟩ := hrel
        by_cases hl2 : j < i + 1
        · have hjI : (j : Int) < (i : Int) + 1 := by omega
          have hkN := HPL.out i j HI.out (by have := HI.out; omega)
          have hlN := HPL.out j i (by have := HI.out; omega) HI.out
          have e1 : (i : Int) * (n : Int) = ((i * n : Nat) : Int) := by simp
          have e2 : (j : Int) * (n : Int) = ((j * n : Nat) : Int) := by simp
          have hkk : ∃ p q k l : Nat, Hid (i * n = p) ∧ Hid (j * n = q) ∧ Hid (p + j = k) ∧ Hid (q + i = l) := ⟨_, _, _, _, rfl, rfl, rfl, rfl⟩
          obtain ⟨p, q, k, l, hp, hq, hk', hl'⟩ := hkk
          rw [hp.out] at e1 hkN
          rw [hq.out] at e2 hlN
          rw [hk'.out] at hkN
          rw [hl'.out] at hlN
          have e3 : (p : Int) + (j : Int) = (k : Int) := by have := hk'.out; omega
          have e4 : (q : Int) + (i : Int) = (l : Int) := by have := hl'.out; omega
          have w1' := wrapM p (by have := hk'.out; omega)
          have w2' := wrapM q (by have := hl'.out; omega)
          have w3' := wrapM k (by omega)
          have w4' := wrapM l (by omega)
          have k0 : (0 : Int) ≤ (k : Int) := by omega
          have k1 : (k : Int) < (N : Int) := by omega
          have l0 : (0 : Int) ≤ (l : Int) := by omega
          have l1 : (l : Int) < (N : Int) := by omega
          have HCALL := hid (HF.out wr i j HFW2.out.1 HI.out (by omega))
          have HJ := hid hl2
          have HKN := hid (And.intro hkN hlN)
          have HIJ : Hid (i * n + j = k ∧ j * n + i = l) := ⟨by rw [hp.out, hk'.out], by rw [hq.out, hl'.out]⟩
          clear hl2 hkN hlN
          go_wp2_with fail
          refine HCALL.out.mono ?_
          rintro e u1 ⟨x, rfl, hx, hb1⟩
          have HX := hid hx
          have HFU := hid (HFW2.out.call hb1)
          have HRU : Hid (u1.rowIs g 42 N (fun k => .float .f64 (o2 k))) := HR2.out.of_block (hb1.block _ HR2.out.lt)
          have m2 : u1.cell? ⟨mb, 2, none⟩ = some (.slice (some ⟨g, 0, none⟩) N N) := (mcells_of HFU.out.2.1).2.2
          have hng := HNE.out.1
          have hng2 := Ne.symm hng
          have cx := HRU.out.cell (i := k) HKN.out.1
          have cl := HRU.out.cell (i := l) HKN.out.2
          have fx := HRU.out.frozen k
          have fl := HRU.out.frozen l
          clear hx hb1
          have HEND : Hid (∀ V, V.heap = ((u1.setCell ⟨g, k, none⟩ (.float .f64 x)).setCell ⟨g, l, none⟩ (.float .f64 x)).heap → Below w.heap.size w V → ∃ (j_1 : Nat) (o3 : Nat → Nat), j_1 ≤ i + 1 ∧ Value.int IntKind.i64 ((j : Int) + 1) = Value.int IntKind.i64 j_1 ∧ Hid (V.rowIs g 42 N (fun k => .float .f64 (o3 k))) ∧ Hid (∀ a b, (a < i ∨ (a = i ∧ b < j_1)) → b ≤ a → MirP P n o3 a b) ∧ Hid (FrF w V mb rb (MBox n n (some ⟨g, 0, none⟩) N N) (MBox 0 0 none 0 0))) := fun V hV hB => by
            have hj1 := HJ.out
            have hi1 := HI.out
            refine ⟨j + 1, fun t => if t = l then x else if t = k then x else o2 t, by omega, by go_num, ?_, ?_, ?_⟩
            · have h0 : ((u1.setCell ⟨g, k, none⟩ (.float .f64 x)).setCell ⟨g, l, none⟩ (.float .f64 x)).rowIs g 42 N (fun t => .float .f64 (if t = l then x else if t = k then x else o2 t)) := by
                refine ((HRU.out.set k _).set l _).congr (fun t _ => ?_)
                by_cases ht : t = l
                · simp [ht]
                · by_cases ht2 : t = k <;> simp [ht, ht2]
              exact h0.of_block (by rw [hV])
            · intro a b hab hb
              exact mir_step hj1 hi1 HIJ.out.1 HIJ.out.2 (fun h => by subst h; exact HX.out) hab hb (fun a b h1 h2 => HP2.out a b h1 h2)
            · exact ⟨hB, by rw [hV]; exact ((HFU.out.set HNE.out.1 HNE.out.2.1 HNE.out.2.2 _).set HNE.out.1 HNE.out.2.1 HNE.out.2.2 _).2.1, by rw [hV]; exact ((HFU.out.set HNE.out.1 HNE.out.2.1 HNE.out.2.2 _).set HNE.out.1 HNE.out.2.1 HNE.out.2.2 _).2.2⟩
          have HBU : Hid (∀ V, Below w.heap.size w V → Below w.heap.size w ((V.setCell ⟨g, k, none⟩ (.float .f64 x)).setCell ⟨g, l, none⟩ (.float .f64 x))) := fun V hV => (hV.setCell (p := ⟨g, k, none⟩) HNE.out.2.2 _).setCell (p := ⟨g, l, none⟩) HNE.out.2.2 _
          by_cases hkl : k = l
          · subst hkl
            go_wp2_with fail
            go_region_held3 (fun W => W.cell? ⟨mb, 2, none⟩ = some (.slice (some ⟨g, 0, none⟩) N N)) (go_keep) (fail)
            go_wp2_with fail
            refine ⟨HEND.out _ rfl (HBU.out _ (HFU.out.1.drew)), ?_⟩
            have hj1 := HJ.out
            simp [intOf]; omega
          · have hlk : ¬ l = k := fun h => hkl h.symm
            go_wp2_with fail
            go_region_held3 (fun W => W.cell? ⟨mb, 2, none⟩ = some (.slice (some ⟨g, 0, none⟩) N N)) (go_keep) (fail)
            go_wp2_with fail
            refine ⟨HEND.out _ rfl (HBU.out _ (HFU.out.1.drew)), ?_⟩
            have hj1 := HJ.out
            simp [intOf]; omega
        · obtain rfl : j = i + 1 := by omega
          go_wp2_with fail
          have hi1 := HI.out
          refine ⟨⟨i + 1, o2, by omega, by go_num, HR2, fun a b ha hb => HP2.out a b (by omega) hb, HFW2⟩, ?_⟩
          simp [intOf]; omega
    · obtain rfl : i = n := by omega
      obtain ⟨m0, m1, m2⟩ := mcells_of HFW.out.2.1
      obtain ⟨b0, b1, b2⟩ := mcells_of HFW.out.2.2
      have fz : ∀ o, wr.frozen? ⟨rb, o, none⟩ = false := fun o => by have := HFW.out.2.2; unfold MBox at this; simp [World.frozen?, this]
      go_wp2_with fail
      refine bodyPost_ret (v := MV i i (some ⟨g, 0, none⟩) N N) (by simp [results, Try.results40, go_sem, b0, b1, b2, MV]) rfl ⟨⟨g, o, rfl, by have := hg.out; omega, ?_, HP.out⟩, ?_⟩
      · exact ((HR.out.of_block (set_keepM (Ne.symm HNE.out.2.1) _)).of_block (set_keepM (Ne.symm HNE.out.2.1) _)).of_block (set_keepM (Ne.symm HNE.out.2.1) _)
      · exact ((HFW.out.1.setCell (p := ⟨rb, 0, none⟩) (by have := hrb.out; show w.heap.size ≤ rb; omega) _).setCell (p := ⟨rb, 1, none⟩) (by have := hrb.out; show w.heap.size ≤ rb; omega) _).setCell (p := ⟨rb, 2, none⟩) (by have := hrb.out; show w.heap.size ≤ rb; omega) _
end Go.Proofs.Ytehgiegmdpaomaa
