
/- sum.Off by any way. (Written by mkso.py.) -/
import Derived.Test.YtehnkgonhgjeiaaGreatDoorP49
import Derived.Test.YtehnkgonhgjeiaaGreatDoorP43
import Derived.Test.YtehnkgonhgjeiaaGreatDoorP31
import Derived.Test.YtehnkgonhgjeiaaGreatDoorP27
namespace Go.Proofs.YtehnkgonhgjeiaaGreatDoor
open Go.RowKit Go.IntWalk Go.ChangeMaps

/-- By how much a way's sum is above the exact one, in steps of 2^-1074; the error. -/
def offV (V : Nat) (xs : List Nat) (n : Nat) : Int := sv V - sumSv xs n
def offE (way : Int) (xs : List Nat) (n : Nat) : Int := if way < 1 ∨ 5 < way then 50 else if 4096 < n then 2 else if allFin xs = false then 4 else if (expOf (wayV way xs n) == 2047) = true then 5 else 0
theorem Sum_okD (sa : Option Addr) (n cap : Nat) (xs : List Nat) (w : World) (hl : ListAt w sa n cap xs) (hb : ∀ x ∈ xs, x < 18446744073709551616) (hn : n ≤ 4096) (hf : allFin xs = true) (hT : Tab w) (hg : 3 < w.heap.size) (hT3 : Tab32 w) (hs : 2 < w.heap.size) :
    Calls Tryz.prog 51 #[.slice sa n cap] w fun r w' => ∃ neg a k c e', r = .returned (.tuple #[.agg #[.bool neg, .slice a k c, .int .i64 e'], .int .i64 0]) ∧ Hid (DyAt w' neg a k c e' (sumSv xs n) (-1074)) ∧ Below w.heap.size w w' := by
  refine (Sum_list sa n cap xs w hl hb (by omega) hT hg hT3 hs).mono ?_
  rintro r w' ⟨neg, a, k, c, e', E, rfl, h1, _, h3⟩
  obtain ⟨rfl, h4⟩ := h1 hf
  exact ⟨neg, a, k, c, e', rfl, h4, h3⟩
theorem Sum_noD (sa : Option Addr) (n cap : Nat) (xs : List Nat) (w : World) (hl : ListAt w sa n cap xs) (hb : ∀ x ∈ xs, x < 18446744073709551616) (hn : n ≤ 4096) (hf : allFin xs = false) (hT : Tab w) (hg : 3 < w.heap.size) (hT3 : Tab32 w) (hs : 2 < w.heap.size) :
    Calls Tryz.prog 51 #[.slice sa n cap] w fun r w' => r = .returned (.tuple #[.agg #[.bool false, .slice none 0 0, .int .i64 0], .int .i64 4]) ∧ Below w.heap.size w w' := by
  refine (Sum_list sa n cap xs w hl hb (by omega) hT hg hT3 hs).mono ?_
  rintro r w' ⟨neg, a, k, c, e', E, rfl, _, h1, h3⟩
  obtain ⟨rfl, rfl, rfl, rfl, rfl, rfl⟩ := h1 hf
  exact ⟨rfl, h3⟩
/-- What ways() answers for a way: a value, and what it answers of the list. -/
theorem rboxS {A B : World} {b : Nat} {o : Obj} (h : A.heap[b]? = some o) (hb : Below A.heap.size A B) : B.heap[b]? = some o := (hb.block _ (Array.getElem?_eq_some_iff.1 h).1).trans h
theorem frzS {A : World} {b : Nat} {n : Bool} {a : Option Addr} {k c : Nat} {e : Int} (h : A.heap[b]? = some (DyBox n a k c e)) (o : Nat) : A.frozen? ⟨b, o, none⟩ = false := by unfold DyBox at h; simp [World.frozen?, h]
def LookW (way : Int) (F : World → Value → Prop) : Prop := ∀ W m b1 b2 b3 b4, WayM W m b1 b2 b3 b4 → ∃ v, (Instr.lookup 74 (.map (some m)) (.int .i64 way) true).run Tryz.prog W = .ok (.tuple #[v, .bool true]) W ∧ F W v
set_option maxHeartbeats 1000000 in
theorem pOff_none (sa : Option Addr) (n cap : Nat) (way : Int) (w : World) (h1 : way ≠ 1) (h2 : way ≠ 2) (h3 : way ≠ 3) (h4 : way ≠ 4) (h5 : way ≠ 5) :
    Calls Tryz.prog 23 #[.slice sa n cap, .int .i64 way] w fun r w' => r = .returned (.tuple #[.agg #[.bool false, .slice none 0 0, .int .i64 0], .int .i64 50]) ∧ Below w.heap.size w w' := by
  have HW := hid (fun W => ways_any W)
  have HK : Hid (∀ b1 b2 b3 b4, Instr.findNow (.int .i64) (.int .i64 way) (WayE b1 b2 b3 b4).toList 0 = some none) := by
    intro b1 b2 b3 b4
    have e1 : (way == 1) = false := beq_false_of_ne h1
    have e2 : (way == 2) = false := beq_false_of_ne h2
    have e3 : (way == 3) = false := beq_false_of_ne h3
    have e4 : (way == 4) = false := beq_false_of_ne h4
    have e5 : (way == 5) = false := beq_false_of_ne h5
    simp only [WayE, ent, Instr.findNow, Instr.sameNow]
    rw [e1, e2, e3, e4, e5]
    rfl
  clear h1 h2 h3 h4 h5
  go_enter Tryz.func23, Tryz.ntmps23
  go_wp2_with fail
  refine (HW.out _).mono ?_
  rintro r W ⟨m, b1, b2, b3, b4, rfl, ⟨q0, q1, q2, q3, q4⟩, hb1⟩
  have hk := look_no W m (WayE b1 b2 b3 b4) 5 way .nilFunc (zero_adder W) q0 (HK.out b1 b2 b3 b4)
  have HB1 := hid ((((Below.refl _ _).alloc (Nat.le_refl _) _).trans (hb1.mono (by simp)) : Below w.heap.size w W))
  have HRB : Hid (W.heap[w.heap.size]? = some (DyBox false none 0 0 0)) := rboxS (new_blk _ _ _ rfl) hb1
  obtain ⟨rb, hrb⟩ : ∃ X, Hid (w.heap.size = X) := ⟨_, rfl⟩
  have hrb1 := hrb.out
  have HRW : Hid (w.heap.size ≤ rb) := by show _ ≤ _; omega
  rw [hrb1] at HRB
  clear q0 q1 q2 q3 q4 hb1 HW
  obtain ⟨r0, r1, r2⟩ := dcells_of HRB.out
  have fz := frzS HRB.out
  unfold DyBox at HRB
  go_wp2_with fail
  refine bodyPost_ret (v := .tuple #[.agg #[.bool false, .slice none 0 0, .int .i64 0], .int .i64 50]) (by simp [results, Tryz.results23, go_sem, r0, r1, r2]) rfl ⟨rfl, ?_⟩
  exact ((HB1.out.setCell (p := ⟨rb, 0, none⟩) HRW.out _).setCell (p := ⟨rb, 1, none⟩) HRW.out _).setCell (p := ⟨rb, 2, none⟩) HRW.out _
set_option maxHeartbeats 1000000 in
theorem pOff_long (way : Int) (sa : Option Addr) (n cap : Nat) (w : World) (hn : 4096 < n) (hway : LookW way (fun _ _ => True)) :
    Calls Tryz.prog 23 #[.slice sa n cap, .int .i64 way] w fun r w' => r = .returned (.tuple #[.agg #[.bool false, .slice none 0 0, .int .i64 0], .int .i64 2]) ∧ Below w.heap.size w w' := by
  have HW := hid (fun W => ways_any W)
  have HY := hid hway
  have hnI : (4096 : Int) < (n : Int) := by omega
  clear hn hway
  go_enter Tryz.func23, Tryz.ntmps23
  go_wp2_with fail
  refine (HW.out _).mono ?_
  rintro r W ⟨m, b1, b2, b3, b4, rfl, hm, hb1⟩
  obtain ⟨v, hk, hv⟩ := HY.out W m b1 b2 b3 b4 hm
  have HV := hid hv
  have HB1 := hid ((((Below.refl _ _).alloc (Nat.le_refl _) _).trans (hb1.mono (by simp)) : Below w.heap.size w W))
  have HRB : Hid (W.heap[w.heap.size]? = some (DyBox false none 0 0 0)) := rboxS (new_blk _ _ _ rfl) hb1
  obtain ⟨rb, hrb⟩ : ∃ X, Hid (w.heap.size = X) := ⟨_, rfl⟩
  have hrb1 := hrb.out
  have HRW : Hid (w.heap.size ≤ rb) := by show _ ≤ _; omega
  rw [hrb1] at HRB
  clear hm hb1 hv HW HY
  obtain ⟨r0, r1, r2⟩ := dcells_of HRB.out
  have fz := frzS HRB.out
  unfold DyBox at HRB
  go_wp2_with fail
  refine bodyPost_ret (v := .tuple #[.agg #[.bool false, .slice none 0 0, .int .i64 0], .int .i64 2]) (by simp [results, Tryz.results23, go_sem, r0, r1, r2]) rfl ⟨rfl, ?_⟩
  exact ((HB1.out.setCell (p := ⟨rb, 0, none⟩) HRW.out _).setCell (p := ⟨rb, 1, none⟩) HRW.out _).setCell (p := ⟨rb, 2, none⟩) HRW.out _
set_option maxRecDepth 4000 in
set_option maxHeartbeats 1000000 in
theorem pOff_bad (way : Int) (sa : Option Addr) (n cap : Nat) (xs : List Nat) (w : World) (hl : LstC w sa n cap xs) (hb : ∀ x ∈ xs, x < 18446744073709551616) (hn : n ≤ 4096) (hf : allFin xs = false) (hway : LookW way (fun _ _ => True)) (hT : Tab w) (hg : 3 < w.heap.size) (hT3 : Tab32 w) (hs : 2 < w.heap.size) :
    Calls Tryz.prog 23 #[.slice sa n cap, .int .i64 way] w fun r w' => r = .returned (.tuple #[.agg #[.bool false, .slice none 0 0, .int .i64 0], .int .i64 4]) ∧ Below w.heap.size w w' := by
  have HT : Hid (∀ W, Below w.heap.size w W → Tab W ∧ 3 < W.heap.size ∧ Tab32 W ∧ 2 < W.heap.size) := fun W hW => ⟨hT.below hg hW, Nat.lt_of_lt_of_le hg hW.size, hT3.below hs hW, Nat.lt_of_lt_of_le hs hW.size⟩
  have HW := hid (fun W => ways_any W)
  have HY := hid hway
  have hnI : (n : Int) ≤ 4096 := by omega
  have HS := hid (fun W hW => Sum_noD sa n cap xs W (hl.below hW).1 hb hn hf (HT.out W hW).1 (HT.out W hW).2.1 (HT.out W hW).2.2.1 (HT.out W hW).2.2.2)
  clear hn hway hl hb hf hT hg hT3 hs
  go_enter Tryz.func23, Tryz.ntmps23
  go_wp2_with fail
  refine (HW.out _).mono ?_
  rintro r W ⟨m, b1, b2, b3, b4, rfl, hm, hb1⟩
  obtain ⟨v, hk, hv⟩ := HY.out W m b1 b2 b3 b4 hm
  have HV := hid hv
  have HB1 := hid ((((Below.refl _ _).alloc (Nat.le_refl _) _).trans (hb1.mono (by simp)) : Below w.heap.size w W))
  have HRB : Hid (W.heap[w.heap.size]? = some (DyBox false none 0 0 0)) := rboxS (new_blk _ _ _ rfl) hb1
  obtain ⟨rb, hrb⟩ : ∃ X, Hid (w.heap.size = X) := ⟨_, rfl⟩
  have hrb1 := hrb.out
  have HRW : Hid (w.heap.size ≤ rb) := by show _ ≤ _; omega
  rw [hrb1] at HRB
  clear hm hb1 hv HW HY
  go_wp2_with fail
  refine (HS.out _ HB1.out).mono ?_
  rintro r w2 ⟨rfl, hb2⟩
  have HB2 := hid (HB1.out.trans (hb2.mono HB1.out.size))
  have hal : Below w2.heap.size w2 (w2.alloc (DyBox false none 0 0 0)) := (Below.refl _ _).alloc (Nat.le_refl _) _
  have HBV := hid (HB2.out.trans (hal.mono HB2.out.size))
  have HRV := hid (rboxS (rboxS HRB.out hb2) hal)
  clear hb2 hal
  obtain ⟨r0, r1, r2⟩ := dcells_of HRV.out
  have fz := frzS HRV.out
  unfold DyBox at HRV HBV r0 r1 r2 fz
  go_wp2_with fail
  refine bodyPost_ret (v := .tuple #[.agg #[.bool false, .slice none 0 0, .int .i64 0], .int .i64 4]) (by simp [results, Tryz.results23, go_sem, r0, r1, r2]) rfl ⟨rfl, ?_⟩
  exact ((HBV.out.setCell (p := ⟨rb, 0, none⟩) HRW.out _).setCell (p := ⟨rb, 1, none⟩) HRW.out _).setCell (p := ⟨rb, 2, none⟩) HRW.out _
set_option maxRecDepth 4000 in
set_option maxHeartbeats 2000000 in
theorem pOff_over_s (way : Int) (V : Nat) (sa : Option Addr) (n cap : Nat) (xs : List Nat) (w : World) (hl : LstC w sa n cap xs) (hb : ∀ x ∈ xs, x < 18446744073709551616) (hn : n ≤ 4096) (hf : allFin xs = true) (hV : V < 18446744073709551616) (hVf : pErr V = 4) (hway : LookW way (fun W v => ∃ b, v = SureV b ∧ ∀ W', Below W.heap.size W W' → LstC W' sa n cap xs → Calls Tryz.prog 143 #[.slice sa n cap, .pointer (some ⟨b, 0, none⟩)] W' fun r w' => r = .returned (.tuple #[.float .f64 V, .int .i64 0]) ∧ Below W'.heap.size W' w')) (hT : Tab w) (hg : 3 < w.heap.size) (hT3 : Tab32 w) (hs : 2 < w.heap.size) :
    Calls Tryz.prog 23 #[.slice sa n cap, .int .i64 way] w fun r w' => r = .returned (.tuple #[.agg #[.bool false, .slice none 0 0, .int .i64 0], .int .i64 5]) ∧ Below w.heap.size w w' := by
  have HT : Hid (∀ W, Below w.heap.size w W → Tab W ∧ 3 < W.heap.size ∧ Tab32 W ∧ 2 < W.heap.size) := fun W hW => ⟨hT.below hg hW, Nat.lt_of_lt_of_le hg hW.size, hT3.below hs hW, Nat.lt_of_lt_of_le hs hW.size⟩
  have HW := hid (fun W => ways_any W)
  have HY := hid hway
  have hnI : (n : Int) ≤ 4096 := by omega
  have HS := hid (fun W hW => Sum_okD sa n cap xs W (hl.below hW).1 hb hn hf (HT.out W hW).1 (HT.out W hW).2.1 (HT.out W hW).2.2.1 (HT.out W hW).2.2.2)
  have HL : Hid (∀ W, Below w.heap.size w W → LstC W sa n cap xs) := fun W hW => hl.below hW
  have HOF := hid (fun W hW => Of_not V W hV hVf (HT.out W hW).1 (HT.out W hW).2.1)
  clear hn hway hl hb hf hT hg hT3 hs hV hVf
  go_enter Tryz.func23, Tryz.ntmps23
  go_wp2_with fail
  refine (HW.out _).mono ?_
  rintro r W ⟨m, b1, b2, b3, b4, rfl, hm, hb1⟩
  obtain ⟨v, hk, b, rfl, hv⟩ := HY.out W m b1 b2 b3 b4 hm
  have HV := hid hv
  have HB1 := hid ((((Below.refl _ _).alloc (Nat.le_refl _) _).trans (hb1.mono (by simp)) : Below w.heap.size w W))
  have HRB : Hid (W.heap[w.heap.size]? = some (DyBox false none 0 0 0)) := rboxS (new_blk _ _ _ rfl) hb1
  obtain ⟨rb, hrb⟩ : ∃ X, Hid (w.heap.size = X) := ⟨_, rfl⟩
  have hrb1 := hrb.out
  have HRW : Hid (w.heap.size ≤ rb) := by show _ ≤ _; omega
  rw [hrb1] at HRB
  clear hm hb1 hv HW HY
  unfold SureV at hk
  go_wp2_with fail
  refine (HS.out _ HB1.out).mono ?_
  rintro r w2 ⟨n2, a2, l2, c2, e2, rfl, HD, hb2⟩
  have HB2 := hid (HB1.out.trans (hb2.mono HB1.out.size))
  have hal : Below w2.heap.size w2 (w2.alloc (DyBox n2 a2 l2 c2 e2)) := (Below.refl _ _).alloc (Nat.le_refl _) _
  have HBV2 := hid (HB2.out.trans (hal.mono HB2.out.size))
  have HR2 := hid (rboxS (rboxS HRB.out hb2) hal)
  have HG2 : Hid (Below W.heap.size W (w2.alloc (DyBox n2 a2 l2 c2 e2))) := hb2.trans (hal.mono hb2.size)
  have Hd2 : Hid (DyVar (w2.alloc (DyBox n2 a2 l2 c2 e2)) w2.heap.size n2 a2 l2 c2 e2 (sumSv xs n) (-1074)) := ⟨new_blk _ _ _ rfl, HD.out.below hal⟩
  obtain ⟨V2, hV2⟩ : ∃ V, Hid (w2.alloc (DyBox n2 a2 l2 c2 e2) = V) := ⟨_, rfl⟩
  rw [hV2.out] at HBV2 Hd2 HG2 HR2
  have hW2 := hV2.out
  unfold DyBox at hW2
  clear hb2 hal HD
  go_wp2_with fail
  refine (HV.out _ HG2.out (HL.out _ HBV2.out)).mono ?_
  rintro r w3 ⟨rfl, hb3⟩
  have HB3 := hid (HBV2.out.trans (hb3.mono HBV2.out.size))
  have Hd3 := hid (Hd2.out.below hb3)
  have HR3 := hid (rboxS HR2.out hb3)
  clear hb3
  go_wp2_with fail
  refine (HOF.out _ HB3.out).mono ?_
  rintro r w4 ⟨rfl, hb4⟩
  have HB4 := hid (HB3.out.trans (hb4.mono HB3.out.size))
  have hal : Below w4.heap.size w4 (w4.alloc (DyBox false none 0 0 0)) := (Below.refl _ _).alloc (Nat.le_refl _) _
  have HBV := hid (HB4.out.trans (hal.mono HB4.out.size))
  have HRV := hid (rboxS (rboxS HR3.out hb4) hal)
  clear hb4 hal
  obtain ⟨r0, r1, r2⟩ := dcells_of HRV.out
  have fz := frzS HRV.out
  unfold DyBox at HRV HBV r0 r1 r2 fz
  go_wp2_with fail
  refine bodyPost_ret (v := .tuple #[.agg #[.bool false, .slice none 0 0, .int .i64 0], .int .i64 5]) (by simp [results, Tryz.results23, go_sem, r0, r1, r2]) rfl ⟨rfl, ?_⟩
  exact ((HBV.out.setCell (p := ⟨rb, 0, none⟩) HRW.out _).setCell (p := ⟨rb, 1, none⟩) HRW.out _).setCell (p := ⟨rb, 2, none⟩) HRW.out _
set_option maxRecDepth 4000 in
set_option maxHeartbeats 2000000 in
theorem pOff_ok_s (way : Int) (V : Nat) (sa : Option Addr) (n cap : Nat) (xs : List Nat) (w : World) (hl : LstC w sa n cap xs) (hb : ∀ x ∈ xs, x < 18446744073709551616) (hn : n ≤ 4096) (hf : allFin xs = true) (hV : V < 18446744073709551616) (hVf : V % 9223372036854775808 < 9218868437227405312) (hway : LookW way (fun W v => ∃ b, v = SureV b ∧ ∀ W', Below W.heap.size W W' → LstC W' sa n cap xs → Calls Tryz.prog 143 #[.slice sa n cap, .pointer (some ⟨b, 0, none⟩)] W' fun r w' => r = .returned (.tuple #[.float .f64 V, .int .i64 0]) ∧ Below W'.heap.size W' w')) (hT : Tab w) (hg : 3 < w.heap.size) (hT3 : Tab32 w) (hs : 2 < w.heap.size) :
    Calls Tryz.prog 23 #[.slice sa n cap, .int .i64 way] w fun r w' => (∃ neg a k c e', r = .returned (.tuple #[.agg #[.bool neg, .slice a k c, .int .i64 e'], .int .i64 0]) ∧ DyAt w' neg a k c e' (offV V xs n) (-1074)) ∧ Below w.heap.size w w' := by
  have HT : Hid (∀ W, Below w.heap.size w W → Tab W ∧ 3 < W.heap.size ∧ Tab32 W ∧ 2 < W.heap.size) := fun W hW => ⟨hT.below hg hW, Nat.lt_of_lt_of_le hg hW.size, hT3.below hs hW, Nat.lt_of_lt_of_le hs hW.size⟩
  have HW := hid (fun W => ways_any W)
  have HY := hid hway
  have hnI : (n : Int) ≤ 4096 := by omega
  have HS := hid (fun W hW => Sum_okD sa n cap xs W (hl.below hW).1 hb hn hf (HT.out W hW).1 (HT.out W hW).2.1 (HT.out W hW).2.2.1 (HT.out W hW).2.2.2)
  have HL : Hid (∀ W, Below w.heap.size w W → LstC W sa n cap xs) := fun W hW => hl.below hW
  have HOF := hid (fun W hW => Of_fin V W hV hVf (HT.out W hW).1 (HT.out W hW).2.1 (HT.out W hW).2.2.1 (HT.out W hW).2.2.2)
  have HZ1 : Hid ((sv V).natAbs < 2 ^ (kN + 13)) := by obtain ⟨_, _, _, h, _⟩ := sv_parts V hVf; exact Nat.lt_of_lt_of_le h (Nat.pow_le_pow_right (by decide) (by omega))
  have HZ2 : Hid ((sumSv xs n).natAbs < 2 ^ (kN + 13)) := by
    have hz := sum_size xs (fin_iff xs hb hf) (by rw [hl.1.1]; exact hn)
    rw [hl.1.1] at hz
    exact hz
  clear hn hway hl hb hf hT hg hT3 hs hV hVf
  go_enter Tryz.func23, Tryz.ntmps23
  go_wp2_with fail
  refine (HW.out _).mono ?_
  rintro r W ⟨m, b1, b2, b3, b4, rfl, hm, hb1⟩
  obtain ⟨v, hk, b, rfl, hv⟩ := HY.out W m b1 b2 b3 b4 hm
  have HV := hid hv
  have HB1 := hid ((((Below.refl _ _).alloc (Nat.le_refl _) _).trans (hb1.mono (by simp)) : Below w.heap.size w W))
  have HRB : Hid (W.heap[w.heap.size]? = some (DyBox false none 0 0 0)) := rboxS (new_blk _ _ _ rfl) hb1
  obtain ⟨rb, hrb⟩ : ∃ X, Hid (w.heap.size = X) := ⟨_, rfl⟩
  have hrb1 := hrb.out
  have HRW : Hid (w.heap.size ≤ rb) := by show _ ≤ _; omega
  rw [hrb1] at HRB
  clear hm hb1 hv HW HY
  unfold SureV at hk
  go_wp2_with fail
  refine (HS.out _ HB1.out).mono ?_
  rintro r w2 ⟨n2, a2, l2, c2, e2, rfl, HD, hb2⟩
  have HB2 := hid (HB1.out.trans (hb2.mono HB1.out.size))
  have hal : Below w2.heap.size w2 (w2.alloc (DyBox n2 a2 l2 c2 e2)) := (Below.refl _ _).alloc (Nat.le_refl _) _
  have HBV2 := hid (HB2.out.trans (hal.mono HB2.out.size))
  have HR2 := hid (rboxS (rboxS HRB.out hb2) hal)
  have HG2 : Hid (Below W.heap.size W (w2.alloc (DyBox n2 a2 l2 c2 e2))) := hb2.trans (hal.mono hb2.size)
  have Hd2 : Hid (DyVar (w2.alloc (DyBox n2 a2 l2 c2 e2)) w2.heap.size n2 a2 l2 c2 e2 (sumSv xs n) (-1074)) := ⟨new_blk _ _ _ rfl, HD.out.below hal⟩
  obtain ⟨V2, hV2⟩ : ∃ V, Hid (w2.alloc (DyBox n2 a2 l2 c2 e2) = V) := ⟨_, rfl⟩
  rw [hV2.out] at HBV2 Hd2 HG2 HR2
  have hW2 := hV2.out
  unfold DyBox at hW2
  clear hb2 hal HD
  go_wp2_with fail
  refine (HV.out _ HG2.out (HL.out _ HBV2.out)).mono ?_
  rintro r w3 ⟨rfl, hb3⟩
  have HB3 := hid (HBV2.out.trans (hb3.mono HBV2.out.size))
  have Hd3 := hid (Hd2.out.below hb3)
  have HR3 := hid (rboxS HR2.out hb3)
  clear hb3
  go_wp2_with fail
  refine (HOF.out _ HB3.out).mono ?_
  rintro r w4 ⟨ho, hb4⟩
  obtain ⟨n4, a4, l4, c4, e4, rfl, hr⟩ := ho.ret
  have HB4 := hid (HB3.out.trans (hb4.mono HB3.out.size))
  have hal : Below w4.heap.size w4 (w4.alloc (DyBox n4 a4 l4 c4 e4)) := (Below.refl _ _).alloc (Nat.le_refl _) _
  have HBV4 := hid (HB4.out.trans (hal.mono HB4.out.size))
  have Hd4 : Hid (DyVar (w4.alloc (DyBox n4 a4 l4 c4 e4)) w4.heap.size n4 a4 l4 c4 e4 (sv V) (-1074)) := DyVar.new hr
  have Hd5 := hid ((Hd3.out.below hb4).below hal)
  have HRV := hid (rboxS (rboxS HR3.out hb4) hal)
  obtain ⟨V4, hV4⟩ : ∃ V, Hid (w4.alloc (DyBox n4 a4 l4 c4 e4) = V) := ⟨_, rfl⟩
  rw [hV4.out] at HBV4 Hd4 Hd5 HRV
  have hW4 := hV4.out
  unfold DyBox at hW4
  obtain ⟨p0, p1, p2⟩ := Hd4.out.cells
  obtain ⟨q0, q1, q2⟩ := Hd5.out.cells
  clear hb4 hal ho hr
  have HTT := hid (HT.out _ HBV4.out)
  go_wp2_with fail
  refine (Sub_dy n4 n2 a4 a2 l4 l2 c4 c2 (kN + 13) e4 e2 _ _ (-1074) _ Hd4.out.2 Hd5.out.2 HZ1.out HZ2.out (by have := kN_is; omega) (by decide) (by decide) HTT.out.2.2.1 HTT.out.2.2.2).mono ?_
  rintro r w5 ⟨ho, hb5⟩
  obtain ⟨n5, a5, l5, c5, e5, rfl, hr⟩ := ho.ret
  have HD5 : Hid (DyAt w5 n5 a5 l5 c5 e5 (offV V xs n) (-1074)) := hr.at
  have HB5 := hid (HBV4.out.trans (hb5.mono HBV4.out.size))
  have HR5 := hid (rboxS HRV.out hb5)
  clear ho hr hb5
  obtain ⟨r0, r1, r2⟩ := dcells_of HR5.out
  have fz := frzS HR5.out
  go_wp2_with fail
  refine bodyPost_ret (v := .tuple #[.agg #[.bool n5, .slice a5 l5 c5, .int .i64 e5], .int .i64 0]) (by simp [results, Tryz.results23, go_sem, r0, r1, r2]) rfl ⟨⟨_, _, _, _, _, rfl, HD5.out.stored HR5.out _ _ _⟩, ?_⟩
  exact ((HB5.out.setCell (p := ⟨rb, 0, none⟩) HRW.out _).setCell (p := ⟨rb, 1, none⟩) HRW.out _).setCell (p := ⟨rb, 2, none⟩) HRW.out _
set_option maxRecDepth 4000 in
set_option maxHeartbeats 2000000 in
theorem pOff_over_e (way : Int) (V : Nat) (sa : Option Addr) (n cap : Nat) (xs : List Nat) (w : World) (hl : LstC w sa n cap xs) (hb : ∀ x ∈ xs, x < 18446744073709551616) (hn : n ≤ 4096) (hf : allFin xs = true) (hV : V < 18446744073709551616) (hVf : pErr V = 4) (hway : LookW way (fun _ v => v = .func (.func 9) #[] #[] ∧ ∀ W', Below w.heap.size w W' → LstC W' sa n cap xs → Calls Tryz.prog 9 #[.slice sa n cap] W' fun r w' => r = .returned (.tuple #[.float .f64 V, .int .i64 0]) ∧ Below W'.heap.size W' w')) (hT : Tab w) (hg : 3 < w.heap.size) (hT3 : Tab32 w) (hs : 2 < w.heap.size) :
    Calls Tryz.prog 23 #[.slice sa n cap, .int .i64 way] w fun r w' => r = .returned (.tuple #[.agg #[.bool false, .slice none 0 0, .int .i64 0], .int .i64 5]) ∧ Below w.heap.size w w' := by
  have HT : Hid (∀ W, Below w.heap.size w W → Tab W ∧ 3 < W.heap.size ∧ Tab32 W ∧ 2 < W.heap.size) := fun W hW => ⟨hT.below hg hW, Nat.lt_of_lt_of_le hg hW.size, hT3.below hs hW, Nat.lt_of_lt_of_le hs hW.size⟩
  have HW := hid (fun W => ways_any W)
  have HY := hid hway
  have hnI : (n : Int) ≤ 4096 := by omega
  have HS := hid (fun W hW => Sum_okD sa n cap xs W (hl.below hW).1 hb hn hf (HT.out W hW).1 (HT.out W hW).2.1 (HT.out W hW).2.2.1 (HT.out W hW).2.2.2)
  have HL : Hid (∀ W, Below w.heap.size w W → LstC W sa n cap xs) := fun W hW => hl.below hW
  have HOF := hid (fun W hW => Of_not V W hV hVf (HT.out W hW).1 (HT.out W hW).2.1)
  clear hn hway hl hb hf hT hg hT3 hs hV hVf
  go_enter Tryz.func23, Tryz.ntmps23
  go_wp2_with fail
  refine (HW.out _).mono ?_
  rintro r W ⟨m, b1, b2, b3, b4, rfl, hm, hb1⟩
  obtain ⟨v, hk, rfl, hv⟩ := HY.out W m b1 b2 b3 b4 hm
  have HV := hid hv
  have HB1 := hid ((((Below.refl _ _).alloc (Nat.le_refl _) _).trans (hb1.mono (by simp)) : Below w.heap.size w W))
  have HRB : Hid (W.heap[w.heap.size]? = some (DyBox false none 0 0 0)) := rboxS (new_blk _ _ _ rfl) hb1
  obtain ⟨rb, hrb⟩ : ∃ X, Hid (w.heap.size = X) := ⟨_, rfl⟩
  have hrb1 := hrb.out
  have HRW : Hid (w.heap.size ≤ rb) := by show _ ≤ _; omega
  rw [hrb1] at HRB
  clear hm hb1 hv HW HY
  go_wp2_with fail
  refine (HS.out _ HB1.out).mono ?_
  rintro r w2 ⟨n2, a2, l2, c2, e2, rfl, HD, hb2⟩
  have HB2 := hid (HB1.out.trans (hb2.mono HB1.out.size))
  have hal : Below w2.heap.size w2 (w2.alloc (DyBox n2 a2 l2 c2 e2)) := (Below.refl _ _).alloc (Nat.le_refl _) _
  have HBV2 := hid (HB2.out.trans (hal.mono HB2.out.size))
  have HR2 := hid (rboxS (rboxS HRB.out hb2) hal)
  have HG2 : Hid (Below W.heap.size W (w2.alloc (DyBox n2 a2 l2 c2 e2))) := hb2.trans (hal.mono hb2.size)
  have Hd2 : Hid (DyVar (w2.alloc (DyBox n2 a2 l2 c2 e2)) w2.heap.size n2 a2 l2 c2 e2 (sumSv xs n) (-1074)) := ⟨new_blk _ _ _ rfl, HD.out.below hal⟩
  obtain ⟨V2, hV2⟩ : ∃ V, Hid (w2.alloc (DyBox n2 a2 l2 c2 e2) = V) := ⟨_, rfl⟩
  rw [hV2.out] at HBV2 Hd2 HG2 HR2
  have hW2 := hV2.out
  unfold DyBox at hW2
  clear hb2 hal HD
  go_wp2_with fail
  refine (HV.out _ HBV2.out (HL.out _ HBV2.out)).mono ?_
  rintro r w3 ⟨rfl, hb3⟩
  have HB3 := hid (HBV2.out.trans (hb3.mono HBV2.out.size))
  have Hd3 := hid (Hd2.out.below hb3)
  have HR3 := hid (rboxS HR2.out hb3)
  clear hb3
  go_wp2_with fail
  refine (HOF.out _ HB3.out).mono ?_
  rintro r w4 ⟨rfl, hb4⟩
  have HB4 := hid (HB3.out.trans (hb4.mono HB3.out.size))
  have hal : Below w4.heap.size w4 (w4.alloc (DyBox false none 0 0 0)) := (Below.refl _ _).alloc (Nat.le_refl _) _
  have HBV := hid (HB4.out.trans (hal.mono HB4.out.size))
  have HRV := hid (rboxS (rboxS HR3.out hb4) hal)
  clear hb4 hal
  obtain ⟨r0, r1, r2⟩ := dcells_of HRV.out
  have fz := frzS HRV.out
  unfold DyBox at HRV HBV r0 r1 r2 fz
  go_wp2_with fail
  refine bodyPost_ret (v := .tuple #[.agg #[.bool false, .slice none 0 0, .int .i64 0], .int .i64 5]) (by simp [results, Tryz.results23, go_sem, r0, r1, r2]) rfl ⟨rfl, ?_⟩
  exact ((HBV.out.setCell (p := ⟨rb, 0, none⟩) HRW.out _).setCell (p := ⟨rb, 1, none⟩) HRW.out _).setCell (p := ⟨rb, 2, none⟩) HRW.out _
set_option maxRecDepth 4000 in
set_option maxHeartbeats 2000000 in
theorem pOff_ok_e (way : Int) (V : Nat) (sa : Option Addr) (n cap : Nat) (xs : List Nat) (w : World) (hl : LstC w sa n cap xs) (hb : ∀ x ∈ xs, x < 18446744073709551616) (hn : n ≤ 4096) (hf : allFin xs = true) (hV : V < 18446744073709551616) (hVf : V % 9223372036854775808 < 9218868437227405312) (hway : LookW way (fun _ v => v = .func (.func 9) #[] #[] ∧ ∀ W', Below w.heap.size w W' → LstC W' sa n cap xs → Calls Tryz.prog 9 #[.slice sa n cap] W' fun r w' => r = .returned (.tuple #[.float .f64 V, .int .i64 0]) ∧ Below W'.heap.size W' w')) (hT : Tab w) (hg : 3 < w.heap.size) (hT3 : Tab32 w) (hs : 2 < w.heap.size) :
    Calls Tryz.prog 23 #[.slice sa n cap, .int .i64 way] w fun r w' => (∃ neg a k c e', r = .returned (.tuple #[.agg #[.bool neg, .slice a k c, .int .i64 e'], .int .i64 0]) ∧ DyAt w' neg a k c e' (offV V xs n) (-1074)) ∧ Below w.heap.size w w' := by
  have HT : Hid (∀ W, Below w.heap.size w W → Tab W ∧ 3 < W.heap.size ∧ Tab32 W ∧ 2 < W.heap.size) := fun W hW => ⟨hT.below hg hW, Nat.lt_of_lt_of_le hg hW.size, hT3.below hs hW, Nat.lt_of_lt_of_le hs hW.size⟩
  have HW := hid (fun W => ways_any W)
  have HY := hid hway
  have hnI : (n : Int) ≤ 4096 := by omega
  have HS := hid (fun W hW => Sum_okD sa n cap xs W (hl.below hW).1 hb hn hf (HT.out W hW).1 (HT.out W hW).2.1 (HT.out W hW).2.2.1 (HT.out W hW).2.2.2)
  have HL : Hid (∀ W, Below w.heap.size w W → LstC W sa n cap xs) := fun W hW => hl.below hW
  have HOF := hid (fun W hW => Of_fin V W hV hVf (HT.out W hW).1 (HT.out W hW).2.1 (HT.out W hW).2.2.1 (HT.out W hW).2.2.2)
  have HZ1 : Hid ((sv V).natAbs < 2 ^ (kN + 13)) := by obtain ⟨_, _, _, h, _⟩ := sv_parts V hVf; exact Nat.lt_of_lt_of_le h (Nat.pow_le_pow_right (by decide) (by omega))
  have HZ2 : Hid ((sumSv xs n).natAbs < 2 ^ (kN + 13)) := by
    have hz := sum_size xs (fin_iff xs hb hf) (by rw [hl.1.1]; exact hn)
    rw [hl.1.1] at hz
    exact hz
  clear hn hway hl hb hf hT hg hT3 hs hV hVf
  go_enter Tryz.func23, Tryz.ntmps23
  go_wp2_with fail
  refine (HW.out _).mono ?_
  rintro r W ⟨m, b1, b2, b3, b4, rfl, hm, hb1⟩
  obtain ⟨v, hk, rfl, hv⟩ := HY.out W m b1 b2 b3 b4 hm
  have HV := hid hv
  have HB1 := hid ((((Below.refl _ _).alloc (Nat.le_refl _) _).trans (hb1.mono (by simp)) : Below w.heap.size w W))
  have HRB : Hid (W.heap[w.heap.size]? = some (DyBox false none 0 0 0)) := rboxS (new_blk _ _ _ rfl) hb1
  obtain ⟨rb, hrb⟩ : ∃ X, Hid (w.heap.size = X) := ⟨_, rfl⟩
  have hrb1 := hrb.out
  have HRW : Hid (w.heap.size ≤ rb) := by show _ ≤ _; omega
  rw [hrb1] at HRB
  clear hm hb1 hv HW HY
  go_wp2_with fail
  refine (HS.out _ HB1.out).mono ?_
  rintro r w2 ⟨n2, a2, l2, c2, e2, rfl, HD, hb2⟩
  have HB2 := hid (HB1.out.trans (hb2.mono HB1.out.size))
  have hal : Below w2.heap.size w2 (w2.alloc (DyBox n2 a2 l2 c2 e2)) := (Below.refl _ _).alloc (Nat.le_refl _) _
  have HBV2 := hid (HB2.out.trans (hal.mono HB2.out.size))
  have HR2 := hid (rboxS (rboxS HRB.out hb2) hal)
  have HG2 : Hid (Below W.heap.size W (w2.alloc (DyBox n2 a2 l2 c2 e2))) := hb2.trans (hal.mono hb2.size)
  have Hd2 : Hid (DyVar (w2.alloc (DyBox n2 a2 l2 c2 e2)) w2.heap.size n2 a2 l2 c2 e2 (sumSv xs n) (-1074)) := ⟨new_blk _ _ _ rfl, HD.out.below hal⟩
  obtain ⟨V2, hV2⟩ : ∃ V, Hid (w2.alloc (DyBox n2 a2 l2 c2 e2) = V) := ⟨_, rfl⟩
  rw [hV2.out] at HBV2 Hd2 HG2 HR2
  have hW2 := hV2.out
  unfold DyBox at hW2
  clear hb2 hal HD
  go_wp2_with fail
  refine (HV.out _ HBV2.out (HL.out _ HBV2.out)).mono ?_
  rintro r w3 ⟨rfl, hb3⟩
  have HB3 := hid (HBV2.out.trans (hb3.mono HBV2.out.size))
  have Hd3 := hid (Hd2.out.below hb3)
  have HR3 := hid (rboxS HR2.out hb3)
  clear hb3
  go_wp2_with fail
  refine (HOF.out _ HB3.out).mono ?_
  rintro r w4 ⟨ho, hb4⟩
  obtain ⟨n4, a4, l4, c4, e4, rfl, hr⟩ := ho.ret
  have HB4 := hid (HB3.out.trans (hb4.mono HB3.out.size))
  have hal : Below w4.heap.size w4 (w4.alloc (DyBox n4 a4 l4 c4 e4)) := (Below.refl _ _).alloc (Nat.le_refl _) _
  have HBV4 := hid (HB4.out.trans (hal.mono HB4.out.size))
  have Hd4 : Hid (DyVar (w4.alloc (DyBox n4 a4 l4 c4 e4)) w4.heap.size n4 a4 l4 c4 e4 (sv V) (-1074)) := DyVar.new hr
  have Hd5 := hid ((Hd3.out.below hb4).below hal)
  have HRV := hid (rboxS (rboxS HR3.out hb4) hal)
  obtain ⟨V4, hV4⟩ : ∃ V, Hid (w4.alloc (DyBox n4 a4 l4 c4 e4) = V) := ⟨_, rfl⟩
  rw [hV4.out] at HBV4 Hd4 Hd5 HRV
  have hW4 := hV4.out
  unfold DyBox at hW4
  obtain ⟨p0, p1, p2⟩ := Hd4.out.cells
  obtain ⟨q0, q1, q2⟩ := Hd5.out.cells
  clear hb4 hal ho hr
  have HTT := hid (HT.out _ HBV4.out)
  go_wp2_with fail
  refine (Sub_dy n4 n2 a4 a2 l4 l2 c4 c2 (kN + 13) e4 e2 _ _ (-1074) _ Hd4.out.2 Hd5.out.2 HZ1.out HZ2.out (by have := kN_is; omega) (by decide) (by decide) HTT.out.2.2.1 HTT.out.2.2.2).mono ?_
  rintro r w5 ⟨ho, hb5⟩
  obtain ⟨n5, a5, l5, c5, e5, rfl, hr⟩ := ho.ret
  have HD5 : Hid (DyAt w5 n5 a5 l5 c5 e5 (offV V xs n) (-1074)) := hr.at
  have HB5 := hid (HBV4.out.trans (hb5.mono HBV4.out.size))
  have HR5 := hid (rboxS HRV.out hb5)
  clear ho hr hb5
  obtain ⟨r0, r1, r2⟩ := dcells_of HR5.out
  have fz := frzS HR5.out
  go_wp2_with fail
  refine bodyPost_ret (v := .tuple #[.agg #[.bool n5, .slice a5 l5 c5, .int .i64 e5], .int .i64 0]) (by simp [results, Tryz.results23, go_sem, r0, r1, r2]) rfl ⟨⟨_, _, _, _, _, rfl, HD5.out.stored HR5.out _ _ _⟩, ?_⟩
  exact ((HB5.out.setCell (p := ⟨rb, 0, none⟩) HRW.out _).setCell (p := ⟨rb, 1, none⟩) HRW.out _).setCell (p := ⟨rb, 2, none⟩) HRW.out _
end Go.Proofs.YtehnkgonhgjeiaaGreatDoor
