
/- The document's Off. (Written by mksob.py.) -/
import Derived.Test.YtehnkgonhgjeiaaGreatDoorP50
import Derived.Test.YtehnkgonhgjeiaaGreatDoorP49
namespace Go.Proofs.YtehnkgonhgjeiaaGreatDoor
open Go.RowKit Go.IntWalk Go.ChangeMaps

theorem set_sameS (W : World) (b o : Nat) (v : Value) (cs : Array Value) (T : TypeId) (h : W.heap[b]? = some (.cells cs T)) (hv : cs.setIfInBounds o v = cs) : W.setCell ⟨b, o, none⟩ v = W := by
  have e : (W.setCell ⟨b, o, none⟩ v).heap = W.heap := by
    apply Array.ext_getElem?
    intro i
    by_cases c : b = i
    · subst c
      simp only [World.setCell, Array.getElem?_modify, h]
      simp [hv]
    · simp only [World.setCell, Array.getElem?_modify, if_neg c]
  have e2 : W.setCell ⟨b, o, none⟩ v = { W with heap := (W.setCell ⟨b, o, none⟩ v).heap } := rfl
  rw [e2, e]
set_option maxRecDepth 4000 in
set_option maxHeartbeats 2000000 in
theorem rOff_none (way : Int) (sa : Option Addr) (n cap : Nat) (w : World) (h : way < 1 ∨ 5 < way) :
    Calls Tryz.prog 24 #[.slice sa n cap, .int .i64 way] w fun r w' => (∃ p e, r = .returned (.tuple #[.agg #[.pointer (some ⟨p, 0, none⟩), .int .i64 e], .int .i64 50])) ∧ Below w.heap.size w w' := by
  have hd : (decide (way < 1) || decide (5 < way)) = true := by simpa using h
  clear h
  go_enter Tryz.func24, Tryz.ntmps24
  go_wp2_with fail
  refine (xZero_any _).mono ?_
  rintro r w1 ⟨q, rfl, hn1, hb1⟩
  have hal : Below w1.heap.size w1 (w1.alloc (XBox (some ⟨q, 0, none⟩) 0)) := (Below.refl _ _).alloc (Nat.le_refl _) _
  have HB1 : Hid (Below w.heap.size w (w1.alloc (XBox (some ⟨q, 0, none⟩) 0))) := (((Below.refl _ _).alloc (Nat.le_refl _) _).trans (hb1.mono (by simp))).alloc (by have := hb1.size; simp at this; omega) _
  have HR1 : Hid ((w1.alloc (XBox (some ⟨q, 0, none⟩) 0)).heap[w.heap.size]? = some (XBox none 0)) := rboxS (rboxS (new_blk _ _ _ rfl) hb1) hal
  have HN1 : Hid ((w1.alloc (XBox (some ⟨q, 0, none⟩) 0)).heap[w1.heap.size]? = some (XBox (some ⟨q, 0, none⟩) 0)) := new_blk _ _ _ rfl
  obtain ⟨W1, hW1⟩ : ∃ V, Hid (w1.alloc (XBox (some ⟨q, 0, none⟩) 0) = V) := ⟨_, rfl⟩
  rw [hW1.out] at HB1 HR1 HN1
  obtain ⟨rb, hrb⟩ : ∃ X, Hid (w.heap.size = X) := ⟨_, rfl⟩
  obtain ⟨nb, hnb⟩ : ∃ X, Hid (w1.heap.size = X) := ⟨_, rfl⟩
  have hrb1 := hrb.out
  have hnb1 := hnb.out
  have HRW : Hid (w.heap.size ≤ rb) := by show _ ≤ _; omega
  rw [hrb1] at HR1
  rw [hnb1] at HN1
  have hW1' := hW1.out
  unfold XBox at hW1'
  have hfz1 : ∀ o, W1.frozen? ⟨nb, o, none⟩ = false := fun o => by have := HN1.out; unfold XBox at this; simp [World.frozen?, this]
  have hsame : W1.setCell ⟨nb, 1, none⟩ (.int .i64 0) = W1 := set_sameS _ _ _ _ _ _ HN1.out rfl
  obtain ⟨n0, n1, _⟩ := xcells_of HN1.out
  clear hn1 hb1 hal
  obtain ⟨r0, r1, _⟩ := xcells_of HR1.out
  obtain ⟨n0, n1, _⟩ := xcells_of HN1.out
  have fz : ∀ o, W1.frozen? ⟨rb, o, none⟩ = false := fun o => by have := HR1.out; unfold XBox at this; simp [World.frozen?, this]
  have HBr : Hid (Below rb w W1) := by rw [← hrb.out]; exact HB1.out
  go_wp2_with fail
  all_goals refine bodyPost_ret (v := .tuple #[.agg #[.pointer (some ⟨q, 0, none⟩), .int .i64 0], .int .i64 50]) (by simp [results, Tryz.results24, go_sem, r0, r1]) rfl ⟨⟨_, _, rfl⟩, ?_⟩
  all_goals first | exact (HB1.out.setCell (p := ⟨rb, 0, none⟩) HRW.out _).setCell (p := ⟨rb, 1, none⟩) HRW.out _ | exact (HBr.out.setCell (p := ⟨rb, 0, none⟩) (Nat.le_refl _) _).setCell (p := ⟨rb, 1, none⟩) (Nat.le_refl _) _
set_option maxRecDepth 4000 in
set_option maxHeartbeats 2000000 in
theorem rOff_long (way : Int) (sa : Option Addr) (n cap : Nat) (w : World) (h1 : 1 ≤ way) (h5 : way ≤ 5) (hn : 4096 < n) :
    Calls Tryz.prog 24 #[.slice sa n cap, .int .i64 way] w fun r w' => (∃ p e, r = .returned (.tuple #[.agg #[.pointer (some ⟨p, 0, none⟩), .int .i64 e], .int .i64 2])) ∧ Below w.heap.size w w' := by
  have hnI : (4096 : Int) < (n : Int) := by omega
  clear hn
  go_enter Tryz.func24, Tryz.ntmps24
  go_wp2_with fail
  refine (xZero_any _).mono ?_
  rintro r w1 ⟨q, rfl, hn1, hb1⟩
  have hal : Below w1.heap.size w1 (w1.alloc (XBox (some ⟨q, 0, none⟩) 0)) := (Below.refl _ _).alloc (Nat.le_refl _) _
  have HB1 : Hid (Below w.heap.size w (w1.alloc (XBox (some ⟨q, 0, none⟩) 0))) := (((Below.refl _ _).alloc (Nat.le_refl _) _).trans (hb1.mono (by simp))).alloc (by have := hb1.size; simp at this; omega) _
  have HR1 : Hid ((w1.alloc (XBox (some ⟨q, 0, none⟩) 0)).heap[w.heap.size]? = some (XBox none 0)) := rboxS (rboxS (new_blk _ _ _ rfl) hb1) hal
  have HN1 : Hid ((w1.alloc (XBox (some ⟨q, 0, none⟩) 0)).heap[w1.heap.size]? = some (XBox (some ⟨q, 0, none⟩) 0)) := new_blk _ _ _ rfl
  obtain ⟨W1, hW1⟩ : ∃ V, Hid (w1.alloc (XBox (some ⟨q, 0, none⟩) 0) = V) := ⟨_, rfl⟩
  rw [hW1.out] at HB1 HR1 HN1
  obtain ⟨rb, hrb⟩ : ∃ X, Hid (w.heap.size = X) := ⟨_, rfl⟩
  obtain ⟨nb, hnb⟩ : ∃ X, Hid (w1.heap.size = X) := ⟨_, rfl⟩
  have hrb1 := hrb.out
  have hnb1 := hnb.out
  have HRW : Hid (w.heap.size ≤ rb) := by show _ ≤ _; omega
  rw [hrb1] at HR1
  rw [hnb1] at HN1
  have hW1' := hW1.out
  unfold XBox at hW1'
  have hfz1 : ∀ o, W1.frozen? ⟨nb, o, none⟩ = false := fun o => by have := HN1.out; unfold XBox at this; simp [World.frozen?, this]
  have hsame : W1.setCell ⟨nb, 1, none⟩ (.int .i64 0) = W1 := set_sameS _ _ _ _ _ _ HN1.out rfl
  obtain ⟨n0, n1, _⟩ := xcells_of HN1.out
  clear hn1 hb1 hal
  obtain ⟨r0, r1, _⟩ := xcells_of HR1.out
  obtain ⟨n0, n1, _⟩ := xcells_of HN1.out
  have fz : ∀ o, W1.frozen? ⟨rb, o, none⟩ = false := fun o => by have := HR1.out; unfold XBox at this; simp [World.frozen?, this]
  have HBr : Hid (Below rb w W1) := by rw [← hrb.out]; exact HB1.out
  go_wp2_with fail
  all_goals refine bodyPost_ret (v := .tuple #[.agg #[.pointer (some ⟨q, 0, none⟩), .int .i64 0], .int .i64 2]) (by simp [results, Tryz.results24, go_sem, r0, r1]) rfl ⟨⟨_, _, rfl⟩, ?_⟩
  all_goals first | exact (HB1.out.setCell (p := ⟨rb, 0, none⟩) HRW.out _).setCell (p := ⟨rb, 1, none⟩) HRW.out _ | exact (HBr.out.setCell (p := ⟨rb, 0, none⟩) (Nat.le_refl _) _).setCell (p := ⟨rb, 1, none⟩) (Nat.le_refl _) _
set_option maxRecDepth 4000 in
set_option maxHeartbeats 2000000 in
theorem rOff_bad (way : Int) (sa : Option Addr) (n cap : Nat) (xs : List Nat) (w : World) (hl : LstC w sa n cap xs) (hb : ∀ x ∈ xs, x < 18446744073709551616) (h1 : 1 ≤ way) (h5 : way ≤ 5) (hn : n ≤ 4096) (hf : allFin xs = false) :
    Calls Tryz.prog 24 #[.slice sa n cap, .int .i64 way] w fun r w' => (∃ p e, r = .returned (.tuple #[.agg #[.pointer (some ⟨p, 0, none⟩), .int .i64 e], .int .i64 4])) ∧ Below w.heap.size w w' := by
  have HA := hid (fun W hW => rall_list sa n cap xs W (hl.below (w' := W) hW).1 hb (by omega))
  rw [hf] at HA
  have hnI : (n : Int) ≤ 4096 := by omega
  clear hl hb hn hf
  go_enter Tryz.func24, Tryz.ntmps24
  go_wp2_with fail
  refine (xZero_any _).mono ?_
  rintro r w1 ⟨q, rfl, hn1, hb1⟩
  have hal : Below w1.heap.size w1 (w1.alloc (XBox (some ⟨q, 0, none⟩) 0)) := (Below.refl _ _).alloc (Nat.le_refl _) _
  have HB1 : Hid (Below w.heap.size w (w1.alloc (XBox (some ⟨q, 0, none⟩) 0))) := (((Below.refl _ _).alloc (Nat.le_refl _) _).trans (hb1.mono (by simp))).alloc (by have := hb1.size; simp at this; omega) _
  have HR1 : Hid ((w1.alloc (XBox (some ⟨q, 0, none⟩) 0)).heap[w.heap.size]? = some (XBox none 0)) := rboxS (rboxS (new_blk _ _ _ rfl) hb1) hal
  have HN1 : Hid ((w1.alloc (XBox (some ⟨q, 0, none⟩) 0)).heap[w1.heap.size]? = some (XBox (some ⟨q, 0, none⟩) 0)) := new_blk _ _ _ rfl
  obtain ⟨W1, hW1⟩ : ∃ V, Hid (w1.alloc (XBox (some ⟨q, 0, none⟩) 0) = V) := ⟨_, rfl⟩
  rw [hW1.out] at HB1 HR1 HN1
  obtain ⟨rb, hrb⟩ : ∃ X, Hid (w.heap.size = X) := ⟨_, rfl⟩
  obtain ⟨nb, hnb⟩ : ∃ X, Hid (w1.heap.size = X) := ⟨_, rfl⟩
  have hrb1 := hrb.out
  have hnb1 := hnb.out
  have HRW : Hid (w.heap.size ≤ rb) := by show _ ≤ _; omega
  rw [hrb1] at HR1
  rw [hnb1] at HN1
  have hW1' := hW1.out
  unfold XBox at hW1'
  have hfz1 : ∀ o, W1.frozen? ⟨nb, o, none⟩ = false := fun o => by have := HN1.out; unfold XBox at this; simp [World.frozen?, this]
  have hsame : W1.setCell ⟨nb, 1, none⟩ (.int .i64 0) = W1 := set_sameS _ _ _ _ _ _ HN1.out rfl
  obtain ⟨n0, n1, _⟩ := xcells_of HN1.out
  clear hn1 hb1 hal
  go_wp2_with fail
  refine (HA.out _ HB1.out).mono ?_
  rintro r w2 ⟨rfl, rfl⟩
  obtain ⟨r0, r1, _⟩ := xcells_of HR1.out
  obtain ⟨n0, n1, _⟩ := xcells_of HN1.out
  have fz : ∀ o, w2.frozen? ⟨rb, o, none⟩ = false := fun o => by have := HR1.out; unfold XBox at this; simp [World.frozen?, this]
  have HBr : Hid (Below rb w w2) := by rw [← hrb.out]; exact HB1.out
  go_wp2_with fail
  all_goals refine bodyPost_ret (v := .tuple #[.agg #[.pointer (some ⟨q, 0, none⟩), .int .i64 0], .int .i64 4]) (by simp [results, Tryz.results24, go_sem, r0, r1]) rfl ⟨⟨_, _, rfl⟩, ?_⟩
  all_goals first | exact (HB1.out.setCell (p := ⟨rb, 0, none⟩) HRW.out _).setCell (p := ⟨rb, 1, none⟩) HRW.out _ | exact (HBr.out.setCell (p := ⟨rb, 0, none⟩) (Nat.le_refl _) _).setCell (p := ⟨rb, 1, none⟩) (Nat.le_refl _) _
set_option maxRecDepth 4000 in
set_option maxHeartbeats 2000000 in
theorem rOff_over (way : Int) (V : Nat) (sa : Option Addr) (n cap : Nat) (xs : List Nat) (w : World) (hl : LstC w sa n cap xs) (hb : ∀ x ∈ xs, x < 18446744073709551616) (h1 : 1 ≤ way) (h5 : way ≤ 5) (hn : n ≤ 4096) (hf : allFin xs = true) (hV : V < 18446744073709551616) (hx : (expOf V == 2047) = true) (hS : ∀ W, Below w.heap.size w W → Calls Tryz.prog 10 #[.slice sa n cap, .int .i64 way] W fun r w' => r = .returned (.tuple #[.float .f64 V, .int .i64 0]) ∧ Below W.heap.size W w') :
    Calls Tryz.prog 24 #[.slice sa n cap, .int .i64 way] w fun r w' => (∃ p e, r = .returned (.tuple #[.agg #[.pointer (some ⟨p, 0, none⟩), .int .i64 e], .int .i64 5])) ∧ Below w.heap.size w w' := by
  have HA := hid (fun W hW => rall_list sa n cap xs W (hl.below (w' := W) hW).1 hb (by omega))
  rw [hf] at HA
  have hnI : (n : Int) ≤ 4096 := by omega
  have HS := hid hS
  have HG := hid (fun W => rfinite_any V W hV)
  clear hl hb hn hf hS hV
  go_enter Tryz.func24, Tryz.ntmps24
  go_wp2_with fail
  refine (xZero_any _).mono ?_
  rintro r w1 ⟨q, rfl, hn1, hb1⟩
  have hal : Below w1.heap.size w1 (w1.alloc (XBox (some ⟨q, 0, none⟩) 0)) := (Below.refl _ _).alloc (Nat.le_refl _) _
  have HB1 : Hid (Below w.heap.size w (w1.alloc (XBox (some ⟨q, 0, none⟩) 0))) := (((Below.refl _ _).alloc (Nat.le_refl _) _).trans (hb1.mono (by simp))).alloc (by have := hb1.size; simp at this; omega) _
  have HR1 : Hid ((w1.alloc (XBox (some ⟨q, 0, none⟩) 0)).heap[w.heap.size]? = some (XBox none 0)) := rboxS (rboxS (new_blk _ _ _ rfl) hb1) hal
  have HN1 : Hid ((w1.alloc (XBox (some ⟨q, 0, none⟩) 0)).heap[w1.heap.size]? = some (XBox (some ⟨q, 0, none⟩) 0)) := new_blk _ _ _ rfl
  obtain ⟨W1, hW1⟩ : ∃ V, Hid (w1.alloc (XBox (some ⟨q, 0, none⟩) 0) = V) := ⟨_, rfl⟩
  rw [hW1.out] at HB1 HR1 HN1
  obtain ⟨rb, hrb⟩ : ∃ X, Hid (w.heap.size = X) := ⟨_, rfl⟩
  obtain ⟨nb, hnb⟩ : ∃ X, Hid (w1.heap.size = X) := ⟨_, rfl⟩
  have hrb1 := hrb.out
  have hnb1 := hnb.out
  have HRW : Hid (w.heap.size ≤ rb) := by show _ ≤ _; omega
  rw [hrb1] at HR1
  rw [hnb1] at HN1
  have hW1' := hW1.out
  unfold XBox at hW1'
  have hfz1 : ∀ o, W1.frozen? ⟨nb, o, none⟩ = false := fun o => by have := HN1.out; unfold XBox at this; simp [World.frozen?, this]
  have hsame : W1.setCell ⟨nb, 1, none⟩ (.int .i64 0) = W1 := set_sameS _ _ _ _ _ _ HN1.out rfl
  obtain ⟨n0, n1, _⟩ := xcells_of HN1.out
  clear hn1 hb1 hal
  go_wp2_with fail
  refine (HA.out _ HB1.out).mono ?_
  rintro r w2 ⟨rfl, rfl⟩
  go_wp2_with fail
  refine (HS.out _ HB1.out).mono ?_
  rintro r w3 ⟨rfl, hb3⟩
  have HB3 := hid (HB1.out.trans (hb3.mono HB1.out.size))
  have HR3 := hid (rboxS HR1.out hb3)
  have HN3 := hid (rboxS HN1.out hb3)
  clear hb3
  go_wp2_with fail
  refine (HG.out _).mono ?_
  rintro r w4 ⟨rfl, rfl⟩
  obtain ⟨r0, r1, _⟩ := xcells_of HR3.out
  obtain ⟨n0, n1, _⟩ := xcells_of HN3.out
  have fz : ∀ o, w4.frozen? ⟨rb, o, none⟩ = false := fun o => by have := HR3.out; unfold XBox at this; simp [World.frozen?, this]
  have HBr : Hid (Below rb w w4) := by rw [← hrb.out]; exact HB3.out
  go_wp2_with fail
  all_goals refine bodyPost_ret (v := .tuple #[.agg #[.pointer (some ⟨q, 0, none⟩), .int .i64 0], .int .i64 5]) (by simp [results, Tryz.results24, go_sem, r0, r1]) rfl ⟨⟨_, _, rfl⟩, ?_⟩
  all_goals first | exact (HB3.out.setCell (p := ⟨rb, 0, none⟩) HRW.out _).setCell (p := ⟨rb, 1, none⟩) HRW.out _ | exact (HBr.out.setCell (p := ⟨rb, 0, none⟩) (Nat.le_refl _) _).setCell (p := ⟨rb, 1, none⟩) (Nat.le_refl _) _
set_option maxRecDepth 4000 in
set_option maxHeartbeats 2000000 in
theorem rOff_ok (way : Int) (V : Nat) (sa : Option Addr) (n cap : Nat) (xs : List Nat) (w : World) (hl : LstC w sa n cap xs) (hb : ∀ x ∈ xs, x < 18446744073709551616) (h1 : 1 ≤ way) (h5 : way ≤ 5) (hn : n ≤ 4096) (hf : allFin xs = true) (hV : V < 18446744073709551616) (hVf : V % 9223372036854775808 < 9218868437227405312) (hS : ∀ W, Below w.heap.size w W → Calls Tryz.prog 10 #[.slice sa n cap, .int .i64 way] W fun r w' => r = .returned (.tuple #[.float .f64 V, .int .i64 0]) ∧ Below W.heap.size W w') :
    Calls Tryz.prog 24 #[.slice sa n cap, .int .i64 way] w fun r w' => (∃ p e, r = .returned (.tuple #[.agg #[.pointer (some ⟨p, 0, none⟩), .int .i64 e], .int .i64 0]) ∧ (-1074 ≤ e ∧ e ≤ 2000) ∧ ExV w' p e (-1074) (offV V xs n) 4200) ∧ Below w.heap.size w w' := by
  have HA := hid (fun W hW => rall_list sa n cap xs W (hl.below (w' := W) hW).1 hb (by omega))
  rw [hf] at HA
  have hnI : (n : Int) ≤ 4096 := by omega
  have HS := hid hS
  have HG := hid (fun W => rfinite_any V W hV)
  have hx : (expOf V == 2047) = false := exp_fin V hVf
  have HXO := hid (fun W => xOf_fin V W hV hVf)
  have HXS := hid (fun W hW => xSum_list sa n cap xs W (hl.below (w' := W) hW).1 hb (by omega) hf)
  clear hl hb hn hf hS hV hVf
  go_enter Tryz.func24, Tryz.ntmps24
  go_wp2_with fail
  refine (xZero_any _).mono ?_
  rintro r w1 ⟨q, rfl, hn1, hb1⟩
  have hal : Below w1.heap.size w1 (w1.alloc (XBox (some ⟨q, 0, none⟩) 0)) := (Below.refl _ _).alloc (Nat.le_refl _) _
  have HB1 : Hid (Below w.heap.size w (w1.alloc (XBox (some ⟨q, 0, none⟩) 0))) := (((Below.refl _ _).alloc (Nat.le_refl _) _).trans (hb1.mono (by simp))).alloc (by have := hb1.size; simp at this; omega) _
  have HR1 : Hid ((w1.alloc (XBox (some ⟨q, 0, none⟩) 0)).heap[w.heap.size]? = some (XBox none 0)) := rboxS (rboxS (new_blk _ _ _ rfl) hb1) hal
  have HN1 : Hid ((w1.alloc (XBox (some ⟨q, 0, none⟩) 0)).heap[w1.heap.size]? = some (XBox (some ⟨q, 0, none⟩) 0)) := new_blk _ _ _ rfl
  obtain ⟨W1, hW1⟩ : ∃ V, Hid (w1.alloc (XBox (some ⟨q, 0, none⟩) 0) = V) := ⟨_, rfl⟩
  rw [hW1.out] at HB1 HR1 HN1
  obtain ⟨rb, hrb⟩ : ∃ X, Hid (w.heap.size = X) := ⟨_, rfl⟩
  obtain ⟨nb, hnb⟩ : ∃ X, Hid (w1.heap.size = X) := ⟨_, rfl⟩
  have hrb1 := hrb.out
  have hnb1 := hnb.out
  have HRW : Hid (w.heap.size ≤ rb) := by show _ ≤ _; omega
  rw [hrb1] at HR1
  rw [hnb1] at HN1
  have hW1' := hW1.out
  unfold XBox at hW1'
  have hfz1 : ∀ o, W1.frozen? ⟨nb, o, none⟩ = false := fun o => by have := HN1.out; unfold XBox at this; simp [World.frozen?, this]
  have hsame : W1.setCell ⟨nb, 1, none⟩ (.int .i64 0) = W1 := set_sameS _ _ _ _ _ _ HN1.out rfl
  obtain ⟨n0, n1, _⟩ := xcells_of HN1.out
  clear hn1 hb1 hal
  go_wp2_with fail
  refine (HA.out _ HB1.out).mono ?_
  rintro r w2 ⟨rfl, rfl⟩
  go_wp2_with fail
  refine (HS.out _ HB1.out).mono ?_
  rintro r w3 ⟨rfl, hb3⟩
  have HB3 := hid (HB1.out.trans (hb3.mono HB1.out.size))
  have HR3 := hid (rboxS HR1.out hb3)
  have HN3 := hid (rboxS HN1.out hb3)
  clear hb3
  go_wp2_with fail
  refine (HG.out _).mono ?_
  rintro r w4 ⟨rfl, rfl⟩
  go_wp2_with fail
  refine (HXO.out _).mono ?_
  rintro r w5 ⟨p5, e5, rfl, he5, hx5, hb5⟩
  have HB5 := hid (HB3.out.trans (hb5.mono HB3.out.size))
  have HR5 := hid (rboxS HR3.out hb5)
  have HX5 := hid hx5
  have HE5 := hid he5
  clear hb5 hx5 he5
  go_wp2_with fail
  refine (HXS.out _ HB5.out).mono ?_
  rintro r w6 ⟨p6, e6, rfl, he6, hx6, hb6⟩
  have HB6 := hid (HB5.out.trans (hb6.mono HB5.out.size))
  have HR6 := hid (rboxS HR5.out hb6)
  have HX5 := hid (HX5.out.below hb6)
  have HX6 := hid hx6
  have HE6 := hid he6
  clear hb6 hx6 he6
  go_wp2_with fail
  refine (xNeg_val p6 200 e6 _ _ _ HX6.out (by decide)).mono ?_
  rintro r w7 ⟨p7, rfl, hx7, hb7⟩
  have HB7 := hid (HB6.out.trans (hb7.mono HB6.out.size))
  have HR7 := hid (rboxS HR6.out hb7)
  have HX5 := hid (HX5.out.below hb7)
  have HX7 := hid hx7
  clear hb7 hx7
  go_wp2_with fail
  refine (xAdd_val p5 p7 2 200 e5 e6 (-1074) _ _ _ HX5.out HX7.out (by decide) (by decide) (by have := HE5.out; omega) (by have := HE6.out; omega)).mono ?_
  rintro r w8 ⟨p8, e8, rfl, he8, hx8, hb8⟩
  have HB8 := hid (HB7.out.trans (hb8.mono HB7.out.size))
  have HR8 := hid (rboxS HR7.out hb8)
  have HX8 : Hid (ExV w8 p8 e8 (-1074) (offV V xs n) 4200) := hx8
  have HE8 : Hid (-1074 ≤ e8 ∧ e8 ≤ 2000) := by have := HE5.out; have := HE6.out; show _ ∧ _; omega
  clear hb8 hx8 he8
  obtain ⟨r0, r1, _⟩ := xcells_of HR8.out
  have fz : ∀ o, w8.frozen? ⟨rb, o, none⟩ = false := fun o => by have := HR8.out; unfold XBox at this; simp [World.frozen?, this]
  have HBr : Hid (Below rb w w8) := by rw [← hrb.out]; exact HB8.out
  go_wp2_with fail
  refine bodyPost_ret (v := .tuple #[.agg #[.pointer (some ⟨p8, 0, none⟩), .int .i64 e8], .int .i64 0]) (by simp [results, Tryz.results24, go_sem, r0, r1]) rfl ⟨⟨_, _, rfl, HE8.out, HX8.out.stored HR8.out _ _⟩, ?_⟩
  first | exact (HB8.out.setCell (p := ⟨rb, 0, none⟩) HRW.out _).setCell (p := ⟨rb, 1, none⟩) HRW.out _ | exact (HBr.out.setCell (p := ⟨rb, 0, none⟩) (Nat.le_refl _) _).setCell (p := ⟨rb, 1, none⟩) (Nat.le_refl _) _
end Go.Proofs.YtehnkgonhgjeiaaGreatDoor

namespace Go.Proofs.YtehnkgonhgjeiaaGreatDoor
open Go.RowKit Go.IntWalk Go.ChangeMaps

theorem LookW.any {way : Int} {F : World → Value → Prop} (h : LookW way F) : LookW way (fun _ _ => True) := fun W m b1 b2 b3 b4 hm => by
  obtain ⟨v, h1, _⟩ := h W m b1 b2 b3 b4 hm
  exact ⟨v, h1, trivial⟩
def SureF (V : Nat) (sa : Option Addr) (n cap : Nat) (xs : List Nat) (W : World) (v : Value) : Prop := ∃ b, v = SureV b ∧ ∀ W', Below W.heap.size W W' → LstC W' sa n cap xs → Calls Tryz.prog 143 #[.slice sa n cap, .pointer (some ⟨b, 0, none⟩)] W' fun r w' => r = .returned (.tuple #[.float .f64 V, .int .i64 0]) ∧ Below W'.heap.size W' w'
theorem look_1 (sa : Option Addr) (n cap : Nat) (xs : List Nat) (hb : ∀ x ∈ xs, x < 18446744073709551616) (hn : n ≤ 17592186043904) : LookW 1 (SureF (wayV 1 xs n) sa n cap xs) := by
  intro W m b1 b2 b3 b4 hm
  obtain ⟨q0, q1, q2, q3, q4⟩ := hm
  refine ⟨SureV b1, look_yes W m (WayE b1 b2 b3 b4) 5 1 0 (SureV b1) q0 (by rfl), b1, rfl, fun W' hW hl => ?_⟩
  exact sureLeft b1 _ sa n cap W' ((hW.block _ (Array.getElem?_eq_some_iff.1 q1).1).trans q1) (Left_any sa n cap xs hb (by have := hl.1.1; omega) W' hl.1.flt)
theorem look_2 (sa : Option Addr) (n cap : Nat) (xs : List Nat) (hb : ∀ x ∈ xs, x < 18446744073709551616) (hn : n ≤ 17592186043904) : LookW 2 (SureF (wayV 2 xs n) sa n cap xs) := by
  intro W m b1 b2 b3 b4 hm
  obtain ⟨q0, q1, q2, q3, q4⟩ := hm
  refine ⟨SureV b2, look_yes W m (WayE b1 b2 b3 b4) 5 2 1 (SureV b2) q0 (by rfl), b2, rfl, fun W' hW hl => ?_⟩
  exact surePairs b2 _ sa n cap W' ((hW.block _ (Array.getElem?_eq_some_iff.1 q2).1).trans q2) (Pairs_any sa n cap xs W' hl hb hn)
theorem look_3 (sa : Option Addr) (n cap : Nat) (xs : List Nat) (hb : ∀ x ∈ xs, x < 18446744073709551616) (hn : n ≤ 17592186043904) : LookW 3 (SureF (wayV 3 xs n) sa n cap xs) := by
  intro W m b1 b2 b3 b4 hm
  obtain ⟨q0, q1, q2, q3, q4⟩ := hm
  refine ⟨SureV b3, look_yes W m (WayE b1 b2 b3 b4) 5 3 2 (SureV b3) q0 (by rfl), b3, rfl, fun W' hW hl => ?_⟩
  exact sureKahan b3 _ sa n cap W' ((hW.block _ (Array.getElem?_eq_some_iff.1 q3).1).trans q3) (Kah_any sa n cap xs hb (by have := hl.1.1; omega) W' hl.1.flt)
theorem look_4 (sa : Option Addr) (n cap : Nat) (xs : List Nat) (hb : ∀ x ∈ xs, x < 18446744073709551616) (hn : n ≤ 17592186043904) : LookW 4 (SureF (wayV 4 xs n) sa n cap xs) := by
  intro W m b1 b2 b3 b4 hm
  obtain ⟨q0, q1, q2, q3, q4⟩ := hm
  refine ⟨SureV b4, look_yes W m (WayE b1 b2 b3 b4) 5 4 3 (SureV b4) q0 (by rfl), b4, rfl, fun W' hW hl => ?_⟩
  exact sureNeu b4 _ sa n cap W' ((hW.block _ (Array.getElem?_eq_some_iff.1 q4).1).trans q4) (Neum_any sa n cap xs hb (by have := hl.1.1; omega) W' hl.1.flt)
def OffP (way : Int) (xs : List Nat) (n : Nat) (r : Ending) (w' : World) : Prop := ∃ neg a k c e', r = .returned (.tuple #[.agg #[.bool neg, .slice a k c, .int .i64 e'], .int .i64 (offE way xs n)]) ∧ (offE way xs n = 0 → DyAt w' neg a k c e' (offV (wayV way xs n) xs n) (-1074)) ∧ (offE way xs n ≠ 0 → neg = false ∧ a = none ∧ k = 0 ∧ c = 0 ∧ e' = 0)
theorem exp_not (V : Nat) (h : (expOf V == 2047) = true) : pErr V = 4 := by
  unfold pErr
  rw [if_pos (by simpa using h)]
theorem exp_fin' (V : Nat) (h : (expOf V == 2047) = false) : V % 9223372036854775808 < 9218868437227405312 := by
  have h2 : expOf V ≠ 2047 := by simpa using h
  apply Classical.byContradiction
  intro c
  apply h2
  unfold expOf canonOf
  split <;> omega
theorem off_small (V : Nat) (xs : List Nat) (n : Nat) (hV : V % 9223372036854775808 < 9218868437227405312) (hf : FinL xs) (hn : xs.length ≤ 4096) (hl : xs.length = n) : (offV V xs n).natAbs < 4294967296 ^ 200 := by
  have h1 : (sv V).natAbs < 2 ^ (kN + 13) := by obtain ⟨_, _, _, h, _⟩ := sv_parts V hV; exact Nat.lt_of_lt_of_le h (Nat.pow_le_pow_right (by decide) (by omega))
  have h2 := sum_size xs hf hn
  rw [hl] at h2
  have h3 : (2 : Nat) ^ (kN + 13) = 8192 * 2 ^ kN := by rw [Nat.pow_add, Nat.mul_comm]
  have h4 := small_bd 16384 kN 200 (by decide) (by decide)
  rw [h3] at h1 h2
  unfold offV
  generalize (2 : Nat) ^ kN = A at h1 h2 h4
  generalize (4294967296 : Nat) ^ 200 = C at h4 ⊢
  omega
theorem offE_at (way : Int) (xs : List Nat) (n : Nat) (h1 : 1 ≤ way) (h5 : way ≤ 5) : offE way xs n = if 4096 < n then 2 else if allFin xs = false then 4 else if (expOf (wayV way xs n) == 2047) = true then 5 else 0 := by
  unfold offE
  rw [if_neg (by omega)]
theorem pOff_any (way : Int) (sa : Option Addr) (n cap : Nat) (xs : List Nat) (w : World) (hl : LstC w sa n cap xs) (hb : ∀ x ∈ xs, x < 18446744073709551616) (hn : n ≤ 17592186043904) (hT : Tab w) (hg : 3 < w.heap.size) (hT3 : Tab32 w) (hs : 2 < w.heap.size) :
    Calls Tryz.prog 23 #[.slice sa n cap, .int .i64 way] w fun r w' => OffP way xs n r w' ∧ Below w.heap.size w w' := by
  have zero : ∀ {E : Int} {r : Ending} {w' : World}, offE way xs n = E → E ≠ 0 → r = .returned (.tuple #[.agg #[.bool false, .slice none 0 0, .int .i64 0], .int .i64 E]) → OffP way xs n r w' := fun {E r w'} h1 h2 h3 => ⟨false, none, 0, 0, 0, by rw [h1]; exact h3, fun h => absurd (h1.symm.trans h) h2, fun _ => ⟨rfl, rfl, rfl, rfl, rfl⟩⟩
  by_cases hw : way < 1 ∨ 5 < way
  · refine (pOff_none sa n cap way w (by omega) (by omega) (by omega) (by omega) (by omega)).mono ?_
    rintro r w' ⟨h1, h2⟩
    exact ⟨zero (by unfold offE; rw [if_pos hw]) (by decide) h1, h2⟩
  have h1 : 1 ≤ way := by omega
  have h5 : way ≤ 5 := by omega
  have hE := offE_at way xs n h1 h5
  have hlt := (wayV_canon way xs n hb).1
  -- the ways' own
  have hT' : LookW way (fun _ _ => True) ∧ (way ≤ 4 → LookW way (SureF (wayV way xs n) sa n cap xs)) := by
    have h : way = 1 ∨ way = 2 ∨ way = 3 ∨ way = 4 ∨ way = 5 := by omega
    rcases h with rfl | rfl | rfl | rfl | rfl
    · exact ⟨(look_1 sa n cap xs hb hn).any, fun _ => look_1 sa n cap xs hb hn⟩
    · exact ⟨(look_2 sa n cap xs hb hn).any, fun _ => look_2 sa n cap xs hb hn⟩
    · exact ⟨(look_3 sa n cap xs hb hn).any, fun _ => look_3 sa n cap xs hb hn⟩
    · exact ⟨(look_4 sa n cap xs hb hn).any, fun _ => look_4 sa n cap xs hb hn⟩
    · refine ⟨fun W m b1 b2 b3 b4 hm => ?_, fun h => absurd h (by decide)⟩
      exact ⟨_, look_yes W m (WayE b1 b2 b3 b4) 5 5 4 (.func (.func 9) #[] #[]) hm.1 (by rfl), trivial⟩
  obtain ⟨t1, t2⟩ := hT'
  by_cases h3 : 4096 < n
  · refine (pOff_long way sa n cap w h3 t1).mono ?_
    rintro r w' ⟨g1, g2⟩
    exact ⟨zero (by rw [hE, if_pos h3]) (by decide) g1, g2⟩
  have h3' : n ≤ 4096 := by omega
  rw [if_neg h3] at hE
  by_cases h4 : allFin xs = false
  · refine (pOff_bad way sa n cap xs w hl hb h3' h4 t1 hT hg hT3 hs).mono ?_
    rintro r w' ⟨g1, g2⟩
    exact ⟨zero (by rw [hE, if_pos h4]) (by decide) g1, g2⟩
  have h4' : allFin xs = true := by revert h4; cases allFin xs <;> simp
  rw [if_neg h4] at hE
  have hX : way = 5 → LookW way (fun _ v => v = .func (.func 9) #[] #[] ∧ ∀ W', Below w.heap.size w W' → LstC W' sa n cap xs → Calls Tryz.prog 9 #[.slice sa n cap] W' fun r w' => r = .returned (.tuple #[.float .f64 (wayV way xs n), .int .i64 0]) ∧ Below W'.heap.size W' w') := fun e => by
    subst e
    intro W m b1 b2 b3 b4 hm
    refine ⟨_, look_yes W m (WayE b1 b2 b3 b4) 5 5 4 (.func (.func 9) #[] #[]) hm.1 (by rfl), rfl, fun W' hW hl' => ?_⟩
    have := Exact_any sa n cap xs W' hl'.1 hb hn (hT.below hg hW) (Nat.lt_of_lt_of_le hg hW.size) (hT3.below hs hW) (Nat.lt_of_lt_of_le hs hW.size)
    rw [show exE n = 0 by unfold exE; rw [if_neg h3]] at this
    exact this
  by_cases h6 : (expOf (wayV way xs n) == 2047) = true
  · rw [if_pos h6] at hE
    by_cases c5 : way = 5
    · refine (pOff_over_e way _ sa n cap xs w hl hb h3' h4' hlt (exp_not _ h6) (hX c5) hT hg hT3 hs).mono ?_
      rintro r w' ⟨g1, g2⟩
      exact ⟨zero hE (by decide) g1, g2⟩
    · refine (pOff_over_s way _ sa n cap xs w hl hb h3' h4' hlt (exp_not _ h6) (t2 (by omega)) hT hg hT3 hs).mono ?_
      rintro r w' ⟨g1, g2⟩
      exact ⟨zero hE (by decide) g1, g2⟩
  · rw [if_neg h6] at hE
    have h6' : (expOf (wayV way xs n) == 2047) = false := by revert h6; cases (expOf (wayV way xs n) == 2047) <;> simp
    by_cases c5 : way = 5
    · refine (pOff_ok_e way _ sa n cap xs w hl hb h3' h4' hlt (exp_fin' _ h6') (hX c5) hT hg hT3 hs).mono ?_
      rintro r w' ⟨⟨neg, a, k, c, e', g1, g3⟩, g2⟩
      exact ⟨⟨neg, a, k, c, e', by rw [hE]; exact g1, fun _ => g3, fun h => absurd hE h⟩, g2⟩
    · refine (pOff_ok_s way _ sa n cap xs w hl hb h3' h4' hlt (exp_fin' _ h6') (t2 (by omega)) hT hg hT3 hs).mono ?_
      rintro r w' ⟨⟨neg, a, k, c, e', g1, g3⟩, g2⟩
      exact ⟨⟨neg, a, k, c, e', by rw [hE]; exact g1, fun _ => g3, fun h => absurd hE h⟩, g2⟩
theorem rOff_any (way : Int) (sa : Option Addr) (n cap : Nat) (xs : List Nat) (w : World) (hl : LstC w sa n cap xs) (hb : ∀ x ∈ xs, x < 18446744073709551616) (hn : n ≤ 17592186043904) (hT3 : Tab32 w) (hs : 2 < w.heap.size) :
    Calls Tryz.prog 24 #[.slice sa n cap, .int .i64 way] w fun r w' => (∃ p e, r = .returned (.tuple #[.agg #[.pointer (some ⟨p, 0, none⟩), .int .i64 e], .int .i64 (offE way xs n)]) ∧ (offE way xs n = 0 → (-1074 ≤ e ∧ e ≤ 2000) ∧ ExV w' p e (-1074) (offV (wayV way xs n) xs n) 200)) ∧ Below w.heap.size w w' := by
  have bad : ∀ {E : Int} {r : Ending} {w' : World}, offE way xs n = E → E ≠ 0 → (∃ p e, r = .returned (.tuple #[.agg #[.pointer (some ⟨p, 0, none⟩), .int .i64 e], .int .i64 E])) → (∃ p e, r = .returned (.tuple #[.agg #[.pointer (some ⟨p, 0, none⟩), .int .i64 e], .int .i64 (offE way xs n)]) ∧ (offE way xs n = 0 → (-1074 ≤ e ∧ e ≤ 2000) ∧ ExV w' p e (-1074) (offV (wayV way xs n) xs n) 200)) := fun {E r w'} h1 h2 h3 => by
    obtain ⟨p, e, h4⟩ := h3
    exact ⟨p, e, by rw [h1]; exact h4, fun h => absurd (h1.symm.trans h) h2⟩
  by_cases hw : way < 1 ∨ 5 < way
  · refine (rOff_none way sa n cap w hw).mono ?_
    rintro r w' ⟨h1, h2⟩
    exact ⟨bad (by unfold offE; rw [if_pos hw]) (by decide) h1, h2⟩
  have h1 : 1 ≤ way := by omega
  have h5 : way ≤ 5 := by omega
  have hE := offE_at way xs n h1 h5
  have hlt := (wayV_canon way xs n hb).1
  by_cases h3 : 4096 < n
  · refine (rOff_long way sa n cap w h1 h5 h3).mono ?_
    rintro r w' ⟨g1, g2⟩
    exact ⟨bad (by rw [hE, if_pos h3]) (by decide) g1, g2⟩
  have h3' : n ≤ 4096 := by omega
  rw [if_neg h3] at hE
  by_cases h4 : allFin xs = false
  · refine (rOff_bad way sa n cap xs w hl hb h1 h5 h3' h4).mono ?_
    rintro r w' ⟨g1, g2⟩
    exact ⟨bad (by rw [hE, if_pos h4]) (by decide) g1, g2⟩
  have h4' : allFin xs = true := by revert h4; cases allFin xs <;> simp
  rw [if_neg h4] at hE
  have hR : wayR way n = 0 := by
    unfold wayR exE
    by_cases c1 : way = 1
    · rw [if_pos c1]
    by_cases c2 : way = 2
    · rw [if_neg c1, if_pos c2]
    by_cases c3 : way = 3
    · rw [if_neg c1, if_neg c2, if_pos c3]
    by_cases c4 : way = 4
    · rw [if_neg c1, if_neg c2, if_neg c3, if_pos c4]
    rw [if_neg c1, if_neg c2, if_neg c3, if_neg c4, if_pos (by omega), if_neg h3]
  have hS : ∀ W, Below w.heap.size w W → Calls Tryz.prog 10 #[.slice sa n cap, .int .i64 way] W fun r w' => r = .returned (.tuple #[.float .f64 (wayV way xs n), .int .i64 0]) ∧ Below W.heap.size W w' := fun W hW => by
    have := rSum_any way sa n cap xs W (hl.below hW) hb hn (hT3.below hs hW) (Nat.lt_of_lt_of_le hs hW.size)
    rw [hR] at this
    exact this
  by_cases h6 : (expOf (wayV way xs n) == 2047) = true
  · rw [if_pos h6] at hE
    refine (rOff_over way _ sa n cap xs w hl hb h1 h5 h3' h4' hlt h6 hS).mono ?_
    rintro r w' ⟨g1, g2⟩
    exact ⟨bad hE (by decide) g1, g2⟩
  · rw [if_neg h6] at hE
    have h6' : (expOf (wayV way xs n) == 2047) = false := by revert h6; cases (expOf (wayV way xs n) == 2047) <;> simp
    refine (rOff_ok way _ sa n cap xs w hl hb h1 h5 h3' h4' hlt (exp_fin' _ h6') hS).mono ?_
    rintro r w' ⟨⟨p, e, g1, g3, g4⟩, g2⟩
    refine ⟨⟨p, e, by rw [hE]; exact g1, fun _ => ⟨g3, g4.tight 200 (off_small _ xs n (exp_fin' _ h6') (fin_iff xs hb h4') (by rw [hl.1.1]; exact h3') hl.1.1)⟩⟩, g2⟩
end Go.Proofs.YtehnkgonhgjeiaaGreatDoor

namespace Go.Proofs.YtehnkgonhgjeiaaGreatDoor
open Go.RowKit Go.IntWalk Go.ChangeMaps

set_option maxRecDepth 8000 in
set_option maxHeartbeats 4000000 in
theorem soff_bad (sa : Option Addr) (sn sc : Nat) (xs : List Nat) (way : Int) (w : World) (hu : U64At w sa sn xs) (hn : sn ≤ 17592186043904) (hT : Tab w) (hg : 3 < w.heap.size) (hT3 : Tab32 w) (hs : 2 < w.heap.size) (hE : offE way xs sn ≠ 0) :
    Calls Tryz.prog 4 #[.slice sa sn sc, .int .i64 way] w fun r w' => r = .returned (.bool true) ∧ Below w.heap.size w w' := by
  have hx := hu.2.1
  have HT : Hid (∀ W, Below w.heap.size w W → Tab W ∧ 3 < W.heap.size ∧ Tab32 W ∧ 2 < W.heap.size) := fun W hW => ⟨hT.below hg hW, Nat.lt_of_lt_of_le hg hW.size, hT3.below hs hW, Nat.lt_of_lt_of_le hs hW.size⟩
  have HA := hid (fun W hW => awake5_any W (HT.out W hW).1 (HT.out W hW).2.1 (HT.out W hW).2.2.1 (HT.out W hW).2.2.2)
  have HO := hid (Of64_lstc sa sn sc xs w hu hn)
  have HP : Hid (∀ W a c, Below w.heap.size w W → LstC W a sn c xs → Calls Tryz.prog 23 #[.slice a sn c, .int .i64 way] W fun r w' => r = .returned (.tuple #[.agg #[.bool false, .slice none 0 0, .int .i64 0], .int .i64 (offE way xs sn)]) ∧ Below W.heap.size W w') := fun W a c hW hl => by
    refine (pOff_any way a sn c xs W hl hx hn (HT.out W hW).1 (HT.out W hW).2.1 (HT.out W hW).2.2.1 (HT.out W hW).2.2.2).mono ?_
    rintro r w' ⟨⟨neg, a, k, c, e', g1, _, g3⟩, g2⟩
    obtain ⟨rfl, rfl, rfl, rfl, rfl⟩ := g3 hE
    exact ⟨g1, g2⟩
  have HQ : Hid (∀ W a c, Below w.heap.size w W → LstC W a sn c xs → Calls Tryz.prog 24 #[.slice a sn c, .int .i64 way] W fun r w' => (∃ p e, r = .returned (.tuple #[.agg #[.pointer (some ⟨p, 0, none⟩), .int .i64 e], .int .i64 (offE way xs sn)])) ∧ Below W.heap.size W w') := fun W a c hW hl => by
    refine (rOff_any way a sn c xs W hl hx hn (HT.out W hW).2.2.1 (HT.out W hW).2.2.2).mono ?_
    rintro r w' ⟨⟨p, e, g1, _⟩, g2⟩
    exact ⟨⟨p, e, g1⟩, g2⟩
  obtain ⟨E, hEE⟩ : ∃ V, Hid (offE way xs sn = V) := ⟨_, rfl⟩
  rw [hEE.out] at HP HQ hE
  have hE0 : (E == 0) = false := by simpa using hE
  clear hu hn hT hg hT3 hs hx hE
  go_enter Tryz.func4, Tryz.ntmps4
  go_wp2_with fail
  refine HO.out.mono ?_
  rintro r w1 ⟨ua, c1, rfl, l1, hb1⟩
  have HB1 := hid hb1
  have HM1 := hid l1
  clear hb1 l1
  go_wp2_with fail
  refine (HP.out _ _ _ HB1.out HM1.out).mono ?_
  rintro r w2 ⟨rfl, hb2⟩
  have HB2 := hid (HB1.out.trans (hb2.mono HB1.out.size))
  have HM2 := hid (HM1.out.below hb2)
  have hal : Below w2.heap.size w2 (w2.alloc (DyBox false none 0 0 0)) := (Below.refl _ _).alloc (Nat.le_refl _) _
  have HBV2 := hid (HB2.out.trans (hal.mono HB2.out.size))
  have HMV2 := hid (HM2.out.below hal)
  have HDB : Hid ((w2.alloc (DyBox false none 0 0 0)).heap[w2.heap.size]? = some (DyBox false none 0 0 0)) := new_blk _ _ _ rfl
  unfold DyBox at HBV2 HMV2
  clear hb2 hal
  go_wp2_with fail
  refine (HQ.out _ _ _ HBV2.out HMV2.out).mono ?_
  rintro r w3 ⟨⟨p, e, rfl⟩, hb3⟩
  have HB3 := hid (HBV2.out.trans (hb3.mono HBV2.out.size))
  have HD3 := hid (rboxS HDB.out hb3)
  have hal : Below w3.heap.size w3 ((w3.alloc (XBox (some ⟨p, 0, none⟩) e)).alloc (DyBox false none 0 0 0)) := ((Below.refl _ _).alloc (Nat.le_refl _) _).alloc (by simp) _
  have HB4 := hid (HB3.out.trans (hal.mono HB3.out.size))
  obtain ⟨d0, d1, d2⟩ := dcells_of (rboxS HD3.out hal)
  have HSM := hid (Same_dy false false none none 0 0 0 0 0 0 0 0 ((w3.alloc (XBox (some ⟨p, 0, none⟩) e)).alloc (DyBox false none 0 0 0)) (dy_zero _ _) (dy_zero _ _))
  unfold XBox DyBox at d0 d1 d2 HB4 HSM
  have hEs : (E == E) = true := by simp
  clear hb3 hal
  go_wp2_with fail
  refine HSM.out.mono ?_
  rintro r w5 ⟨rfl, hb5⟩
  have HB5 := hid (HB4.out.trans (hb5.mono HB4.out.size))
  clear hb5
  go_wp2_with fail
  refine (HA.out _ HB5.out).mono ?_
  rintro r w6 ⟨rfl, hb6⟩
  go_wp2_with fail
  go_ret
  exact ⟨rfl, HB5.out.trans (hb6.mono HB5.out.size)⟩
set_option maxRecDepth 8000 in
set_option maxHeartbeats 4000000 in
theorem soff_ok (sa : Option Addr) (sn sc : Nat) (xs : List Nat) (way : Int) (w : World) (hu : U64At w sa sn xs) (hn : sn ≤ 17592186043904) (hT : Tab w) (hg : 3 < w.heap.size) (hT3 : Tab32 w) (hs : 2 < w.heap.size) (hE : offE way xs sn = 0) :
    Calls Tryz.prog 4 #[.slice sa sn sc, .int .i64 way] w fun r w' => r = .returned (.bool true) ∧ Below w.heap.size w w' := by
  have hx := hu.2.1
  have HT : Hid (∀ W, Below w.heap.size w W → Tab W ∧ 3 < W.heap.size ∧ Tab32 W ∧ 2 < W.heap.size) := fun W hW => ⟨hT.below hg hW, Nat.lt_of_lt_of_le hg hW.size, hT3.below hs hW, Nat.lt_of_lt_of_le hs hW.size⟩
  have HA := hid (fun W hW => awake5_any W (HT.out W hW).1 (HT.out W hW).2.1 (HT.out W hW).2.2.1 (HT.out W hW).2.2.2)
  have HO := hid (Of64_lstc sa sn sc xs w hu hn)
  obtain ⟨Z, hZ⟩ : ∃ V, Hid (offV (wayV way xs sn) xs sn = V) := ⟨_, rfl⟩
  have HP : Hid (∀ W a c, Below w.heap.size w W → LstC W a sn c xs → Calls Tryz.prog 23 #[.slice a sn c, .int .i64 way] W fun r w' => (∃ neg a k c e', r = .returned (.tuple #[.agg #[.bool neg, .slice a k c, .int .i64 e'], .int .i64 0]) ∧ DyAt w' neg a k c e' Z (-1074)) ∧ Below W.heap.size W w') := fun W a c hW hl => by
    refine (pOff_any way a sn c xs W hl hx hn (HT.out W hW).1 (HT.out W hW).2.1 (HT.out W hW).2.2.1 (HT.out W hW).2.2.2).mono ?_
    rintro r w' ⟨⟨neg, a, k, c, e', g1, g3, _⟩, g2⟩
    rw [hE] at g1
    have := g3 hE
    rw [hZ.out] at this
    exact ⟨⟨neg, a, k, c, e', g1, this⟩, g2⟩
  have HQ : Hid (∀ W a c, Below w.heap.size w W → LstC W a sn c xs → Calls Tryz.prog 24 #[.slice a sn c, .int .i64 way] W fun r w' => (∃ p e, r = .returned (.tuple #[.agg #[.pointer (some ⟨p, 0, none⟩), .int .i64 e], .int .i64 0]) ∧ (-1074 ≤ e ∧ e ≤ 2000) ∧ ExV w' p e (-1074) Z 200) ∧ Below W.heap.size W w') := fun W a c hW hl => by
    refine (rOff_any way a sn c xs W hl hx hn (HT.out W hW).2.2.1 (HT.out W hW).2.2.2).mono ?_
    rintro r w' ⟨⟨p, e, g1, g3⟩, g2⟩
    rw [hE] at g1
    have := g3 hE
    rw [hZ.out] at this
    exact ⟨⟨p, e, g1, this⟩, g2⟩
  clear hu hn hT hg hT3 hs hx hE
  go_enter Tryz.func4, Tryz.ntmps4
  go_wp2_with fail
  refine HO.out.mono ?_
  rintro r w1 ⟨ua, c1, rfl, l1, hb1⟩
  have HB1 := hid hb1
  have HM1 := hid l1
  clear hb1 l1
  go_wp2_with fail
  refine (HP.out _ _ _ HB1.out HM1.out).mono ?_
  rintro r w2 ⟨⟨n2, a2, k2, c2, e2, rfl, hd⟩, hb2⟩
  have HB2 := hid (HB1.out.trans (hb2.mono HB1.out.size))
  have HM2 := hid (HM1.out.below hb2)
  have hal : Below w2.heap.size w2 (w2.alloc (DyBox n2 a2 k2 c2 e2)) := (Below.refl _ _).alloc (Nat.le_refl _) _
  have HBV2 := hid (HB2.out.trans (hal.mono HB2.out.size))
  have HMV2 := hid (HM2.out.below hal)
  have HDV : Hid (DyVar (w2.alloc (DyBox n2 a2 k2 c2 e2)) w2.heap.size n2 a2 k2 c2 e2 Z (-1074)) := ⟨new_blk _ _ _ rfl, hd.below hal⟩
  obtain ⟨V2, hV2⟩ : ∃ V, Hid (w2.alloc (DyBox n2 a2 k2 c2 e2) = V) := ⟨_, rfl⟩
  rw [hV2.out] at HBV2 HMV2 HDV
  have hW2 := hV2.out
  unfold DyBox at hW2
  clear hb2 hal hd
  go_wp2_with fail
  refine (HQ.out _ _ _ HBV2.out HMV2.out).mono ?_
  rintro r w3 ⟨⟨p, e, rfl, he, hxv⟩, hb3⟩
  have HB3 := hid (HBV2.out.trans (hb3.mono HBV2.out.size))
  have HD3 := hid (HDV.out.below hb3)
  have hal : Below w3.heap.size w3 ((w3.alloc (XBox (some ⟨p, 0, none⟩) e)).alloc (DyBox false none 0 0 0)) := ((Below.refl _ _).alloc (Nat.le_refl _) _).alloc (by simp) _
  have HB4 := hid (HB3.out.trans (hal.mono HB3.out.size))
  have HD4 := hid (HD3.out.below hal)
  have HX4 := hid (hxv.below hal)
  have HE4 := hid he
  obtain ⟨_, g2⟩ := two_blk w3 (XBox (some ⟨p, 0, none⟩) e) (DyBox false none 0 0 0)
  have HW4 : Hid (((w3.alloc (XBox (some ⟨p, 0, none⟩) e)).alloc (DyBox false none 0 0 0)).heap[w3.heap.size + 1]? = some (DyBox false none 0 0 0)) := g2
  have HTT := hid (HT.out _ HB4.out)
  have HOUT := hid (xOut_any p e (-1074) Z _ HX4.out (by have := HE4.out; omega) (by have := HE4.out; omega) HTT.out.2.2.1 HTT.out.2.2.2)
  have HSZ : Hid (w.heap.size ≤ w3.heap.size + 1) := by have := HB3.out.size; show _ ≤ _; omega
  unfold XBox DyBox at HOUT
  clear hb3 hal he hxv g2
  go_wp2_with fail
  refine HOUT.out.mono ?_
  rintro r w5 ⟨n5, a5, k5, c5, e5, rfl, hd5, hb5⟩
  have hb5' : Below ((w3.alloc (XBox (some ⟨p, 0, none⟩) e)).alloc (DyBox false none 0 0 0)).heap.size ((w3.alloc (XBox (some ⟨p, 0, none⟩) e)).alloc (DyBox false none 0 0 0)) w5 := hb5
  have HB5 := hid (HB4.out.trans (hb5'.mono HB4.out.size))
  have HD5 := hid (HD4.out.below hb5')
  have HW5 := hid (rboxS HW4.out hb5')
  obtain ⟨V, hV⟩ : ∃ V, Hid (((w5.setCell ⟨w3.heap.size + 1, 0, none⟩ (.bool n5)).setCell ⟨w3.heap.size + 1, 1, none⟩ (.slice a5 k5 c5)).setCell ⟨w3.heap.size + 1, 2, none⟩ (.int .i64 e5) = V) := ⟨_, rfl⟩
  have HSM : Hid (Calls Tryz.prog 26 #[.agg #[.bool n2, .slice a2 k2 c2, .int .i64 e2], .agg #[.bool n5, .slice a5 k5 c5, .int .i64 e5]] V fun r w' => r = .returned (.bool true) ∧ Below V.heap.size V w') := by
    have d1 := HD5.out.2.stored HW5.out (.bool n5) (.slice a5 k5 c5) (.int .i64 e5)
    have d2 := hd5.stored HW5.out (.bool n5) (.slice a5 k5 c5) (.int .i64 e5)
    rw [hV.out] at d1 d2
    exact Same_dy _ _ _ _ _ _ _ _ _ _ _ _ V d1 d2
  have HBV : Hid (Below w.heap.size w V) := by
    rw [← hV.out]
    exact Below.setCell (Below.setCell (Below.setCell HB5.out HSZ.out _) HSZ.out _) HSZ.out _
  have hne : w2.heap.size ≠ w3.heap.size + 1 := by
    have h1 := (Array.getElem?_eq_some_iff.1 HD3.out.1).1
    omega
  have v1 : V.heap[w2.heap.size]? = some (DyBox n2 a2 k2 c2 e2) := by
    rw [← hV.out]
    show (World.setCell _ _ _).heap[_]? = _
    rw [set_keep hne, set_keep hne, set_keep hne]
    exact HD5.out.1
  have v3 : V.heap[w3.heap.size + 1]? = some (DyBox n5 a5 k5 c5 e5) := by
    have q3 := HW5.out
    rw [← hV.out]
    unfold DyBox at q3 ⊢
    simp [World.setCell, Array.getElem?_modify, q3]
  obtain ⟨x0, x1, x2⟩ := dcells_of v1
  obtain ⟨y0, y1, y2⟩ := dcells_of v3
  obtain ⟨t0, t1, t2⟩ := dcells_of HW5.out
  have fz : ∀ o, w5.frozen? ⟨w3.heap.size + 1, o, none⟩ = false := fun o => frzS HW5.out o
  have hV' := hV.out
  clear hd5 hb5 hb5' v1 v3 hne
  go_wp2_with fail
  refine HSM.out.mono ?_
  rintro r w6 ⟨rfl, hb6⟩
  have HB6 := hid (HBV.out.trans (hb6.mono HBV.out.size))
  clear hb6
  go_wp2_with fail
  refine (HA.out _ HB6.out).mono ?_
  rintro r w7 ⟨rfl, hb7⟩
  go_wp2_with fail
  go_ret
  exact ⟨rfl, HB6.out.trans (hb7.mono HB6.out.size)⟩
theorem soff_walk (sa : Option Addr) (sn sc : Nat) (xs : List Nat) (way : Int) (w : World) (hu : U64At w sa sn xs) (hn : sn ≤ 17592186043904) (_hw : -9223372036854775808 ≤ way ∧ way ≤ 9223372036854775807) (hT : Tab w) (hg : 3 < w.heap.size) (hT3 : Tab32 w) (hs : 2 < w.heap.size) :
    Calls Tryz.prog 4 #[.slice sa sn sc, .int .i64 way] w fun r w' => r = .returned (.bool true) ∧ Below w.heap.size w w' := by
  by_cases h : offE way xs sn = 0
  · exact soff_ok sa sn sc xs way w hu hn hT hg hT3 hs h
  · exact soff_bad sa sn sc xs way w hu hn hT hg hT3 hs h
end Go.Proofs.YtehnkgonhgjeiaaGreatDoor
