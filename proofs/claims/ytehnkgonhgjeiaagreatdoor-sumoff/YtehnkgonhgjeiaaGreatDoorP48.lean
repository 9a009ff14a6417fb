
/- sum's ways: the map of the ways, made anew; what a look-up in it gives. (Written by mksma2.py.) -/
import Derived.Test.YtehnkgonhgjeiaaGreatDoorP45
import Derived.Test.YtehnkgonhgjeiaaGreatDoorP46
import Derived.MapKept
import Derived.ChangeMaps4
import Derived.Maps.OwnIn
namespace Go.Proofs.YtehnkgonhgjeiaaGreatDoor
open Go.RowKit Go.IntWalk Go.ChangeMaps

/-- A func value in a box. -/
def FBox (f : Nat) : Obj := .cells #[.func (.func f) #[] #[]] 35
def SureV (b : Nat) : Value := .func (.func 143) #[] #[.pointer (some ⟨b, 0, none⟩)]
def ent (k : Int) (v : Value) (n : Nat) : MapEntry := { key := .int .i64 k, val := v, born := n }
theorem und_way : Tryz.prog.underlying 74 = some (.map 33 72) := by kernel_rfl
theorem und_key : Tryz.prog.underlying 33 = some (.int .i64) := by kernel_rfl
theorem ins_new (w : World) (r : Nat) (es : Array MapEntry) (n : Nat) (k : Int) (v : Value) (hb : w.heap[r]? = some (.map es n)) (hn : Instr.findNow (.int .i64) (.int .i64 k) es.toList 0 = some none) :
    (Instr.mapUpdate 74 (.map (some r)) (.int .i64 k) v).run Tryz.prog w = .ok () (setBlock w r (.map (es.push (ent k v n)) (n + 1))) := by
  simp [Instr.mapUpdate, run_underlying und_way, MapKept.run_getObj_map hb, MapKept.run_checkKey und_key (show MapKept.IsKey (.int .i64) (.int .i64 k) from rfl), MapKept.run_findKey und_key hn, MapKept.run_setObj_map _ hb, Result.andThen, setBlock, ent]
theorem look_yes (w : World) (r : Nat) (es : Array MapEntry) (n : Nat) (k : Int) (i : Nat) (v : Value) (hb : w.heap[r]? = some (.map es n)) (hn : Instr.findNow (.int .i64) (.int .i64 k) es.toList 0 = some (some (i, v))) :
    (Instr.lookup 74 (.map (some r)) (.int .i64 k) true).run Tryz.prog w = .ok (.tuple #[v, .bool true]) w := by
  simp [Instr.lookup, run_underlying und_way, MapKept.run_getObj_map hb, MapKept.run_checkKey und_key (show MapKept.IsKey (.int .i64) (.int .i64 k) from rfl), MapKept.run_findKey und_key hn, Result.andThen]
theorem look_no (w : World) (r : Nat) (es : Array MapEntry) (n : Nat) (k : Int) (z : Value) (hz : (zeroValue 72).run Tryz.prog w = .ok z w) (hb : w.heap[r]? = some (.map es n)) (hn : Instr.findNow (.int .i64) (.int .i64 k) es.toList 0 = some none) :
    (Instr.lookup 74 (.map (some r)) (.int .i64 k) true).run Tryz.prog w = .ok (.tuple #[z, .bool false]) w := by
  simp [Instr.lookup, run_underlying und_way, MapKept.run_getObj_map hb, MapKept.run_checkKey und_key (show MapKept.IsKey (.int .i64) (.int .i64 k) from rfl), MapKept.run_findKey und_key hn, Result.andThen, hz]
theorem set_blk {w : World} {r : Nat} {o o' : Obj} (h : w.heap[r]? = some o) : (setBlock w r o').heap[r]? = some o' := by
  have := (Array.getElem?_eq_some_iff.1 h).1
  simp [setBlock, this]
theorem set_other {w : World} {r b : Nat} {o o' : Obj} (h : w.heap[b]? = some o) (hne : b ≠ r) : (setBlock w r o').heap[b]? = some o := by
  simp only [setBlock, Array.getElem?_setIfInBounds]
  rw [if_neg (by omega)]
  exact h
theorem set_below {B : Nat} {a w : World} {r : Nat} {o : Obj} (h : Below B a w) (hr : B ≤ r) : Below B a (setBlock w r o) :=
  h.trans ⟨rfl, rfl, rfl, by simp [setBlock], fun k hk => by simp only [setBlock, Array.getElem?_setIfInBounds]; rw [if_neg (by omega)]⟩
theorem set_size (w : World) (r : Nat) (o : Obj) : (setBlock w r o).heap.size = w.heap.size := by simp [setBlock]
theorem al_other {w : World} {b : Nat} {o o' : Obj} (h : w.heap[b]? = some o) : (w.alloc o').heap[b]? = some o := by
  rw [Below.heap_alloc w o' b (Array.getElem?_eq_some_iff.1 h).1]
  exact h
/-- The map's entries. -/
def WayE (b1 b2 b3 b4 : Nat) : Array MapEntry := #[ent 1 (SureV b1) 0, ent 2 (SureV b2) 1, ent 3 (SureV b3) 2, ent 4 (SureV b4) 3, ent 5 (.func (.func 9) #[] #[]) 4]
def WayM (W : World) (r b1 b2 b3 b4 : Nat) : Prop := W.heap[r]? = some (.map (WayE b1 b2 b3 b4) 5) ∧ W.heap[b1]? = some (FBox 13) ∧ W.heap[b2]? = some (FBox 15) ∧ W.heap[b3]? = some (FBox 17) ∧ W.heap[b4]? = some (FBox 19)
set_option maxHeartbeats 1000000 in
theorem sure_any (f : Nat) (w : World) : Calls Tryz.prog 102 #[.func (.func f) #[] #[]] w fun r w' => r = .returned (SureV w.heap.size) ∧ w' = w.alloc (FBox f) := by
  go_enter Tryz.func102, Tryz.ntmps102
  go_wp2
  go_ret
  exact ⟨rfl, rfl⟩
set_option maxHeartbeats 2000000 in
theorem ways_any (w : World) : Calls Tryz.prog 53 #[] w fun r w' => ∃ m b1 b2 b3 b4, r = .returned (.map (some m)) ∧ WayM w' m b1 b2 b3 b4 ∧ Below w.heap.size w w' := by
  have hmm := @run_makeMap Tryz.prog
  have HS := hid sure_any
  have HM0 : Hid ((w.alloc (.map #[] 0)).heap[w.heap.size]? = some (.map #[] 0)) := new_blk _ _ _ rfl
  have HB0 : Hid (Below w.heap.size w (w.alloc (.map #[] 0))) := (Below.refl _ _).alloc (Nat.le_refl _) _
  obtain ⟨W0, hW0⟩ : ∃ X, Hid (w.alloc (.map #[] 0) = X) := ⟨_, rfl⟩
  obtain ⟨m, hm⟩ : ∃ X, Hid (w.heap.size = X) := ⟨_, rfl⟩
  rw [hW0.out] at HM0 HB0
  rw [hm.out] at HM0
  have HMB : Hid (w.heap.size ≤ m) := Nat.le_of_eq hm.out
  have hW0' := hW0.out
  have hm' := hm.out
  go_enter Tryz.func53, Tryz.ntmps53
  go_wp2_with fail
  clear hW0' hm'
  refine (HS.out 13 _).mono ?_
  rintro r w1 ⟨rfl, hw⟩
  have HM1 : Hid (w1.heap[m]? = some (.map #[] 0)) := by rw [hw]; exact al_other HM0.out
  have HB1 : Hid (Below w.heap.size w w1) := by rw [hw]; exact HB0.out.alloc HB0.out.size _
  have HX1 : Hid (w1.heap[W0.heap.size]? = some (FBox 13)) := by rw [hw]; exact new_blk _ _ _ rfl
  obtain ⟨b1, hb1⟩ : ∃ X, Hid (W0.heap.size = X) := ⟨_, rfl⟩
  have HN1 : Hid (b1 ≠ m) := by
    have h1 := (Array.getElem?_eq_some_iff.1 HM0.out).1
    have h2 := hb1.out
    show b1 ≠ m
    omega
  rw [hb1.out] at HX1
  have hbx := hb1.out
  (try rw [set_size] at hbx)
  (try rw [hbx])
  (try rw [hb1.out])
  have hi := ins_new w1 m #[] 0 1 (SureV b1) HM1.out (by rfl)
  unfold SureV at hi
  have HMb1 : Hid ((setBlock w1 m (.map (#[].push (ent 1 (SureV b1) 0)) (0 + 1))).heap[m]? = some (.map #[ent 1 (SureV b1) 0] 1)) := set_blk HM1.out
  have HBb1 : Hid (Below w.heap.size w (setBlock w1 m (.map (#[].push (ent 1 (SureV b1) 0)) (0 + 1)))) := set_below HB1.out HMB.out
  have HX1 : Hid ((setBlock w1 m (.map (#[].push (ent 1 (SureV b1) 0)) (0 + 1))).heap[b1]? = some (FBox 13)) := set_other HX1.out HN1.out
  obtain ⟨W1, hW1⟩ : ∃ X, Hid (setBlock w1 m (.map (#[].push (ent 1 (SureV b1) 0)) (0 + 1)) = X) := ⟨_, rfl⟩
  rw [hW1.out] at HMb1 HBb1 HX1
  have hx1 := hW1.out
  unfold SureV at hx1
  rw [hx1] at hi
  clear hw hbx hx1
  unfold SureV
  go_wp2_with fail
  clear hi
  refine (HS.out 15 _).mono ?_
  rintro r w2 ⟨rfl, hw⟩
  have HM2 : Hid (w2.heap[m]? = some (.map #[ent 1 (SureV b1) 0] 1)) := by rw [hw]; exact al_other HMb1.out
  have HB2 : Hid (Below w.heap.size w w2) := by rw [hw]; exact HBb1.out.alloc HBb1.out.size _
  have HX2 : Hid (w2.heap[W1.heap.size]? = some (FBox 15)) := by rw [hw]; exact new_blk _ _ _ rfl
  have HX1 : Hid (w2.heap[b1]? = some (FBox 13)) := by rw [hw]; exact al_other HX1.out
  obtain ⟨b2, hb2⟩ : ∃ X, Hid (W1.heap.size = X) := ⟨_, rfl⟩
  have HN2 : Hid (b2 ≠ m) := by
    have h1 := (Array.getElem?_eq_some_iff.1 HMb1.out).1
    have h2 := hb2.out
    show b2 ≠ m
    omega
  rw [hb2.out] at HX2
  have hbx := hb2.out
  (try rw [set_size] at hbx)
  (try rw [hbx])
  (try rw [hb2.out])
  have hi := ins_new w2 m #[ent 1 (SureV b1) 0] 1 2 (SureV b2) HM2.out (by rfl)
  unfold SureV at hi
  have HMb2 : Hid ((setBlock w2 m (.map (#[ent 1 (SureV b1) 0].push (ent 2 (SureV b2) 1)) (1 + 1))).heap[m]? = some (.map #[ent 1 (SureV b1) 0, ent 2 (SureV b2) 1] 2)) := set_blk HM2.out
  have HBb2 : Hid (Below w.heap.size w (setBlock w2 m (.map (#[ent 1 (SureV b1) 0].push (ent 2 (SureV b2) 1)) (1 + 1)))) := set_below HB2.out HMB.out
  have HX1 : Hid ((setBlock w2 m (.map (#[ent 1 (SureV b1) 0].push (ent 2 (SureV b2) 1)) (1 + 1))).heap[b1]? = some (FBox 13)) := set_other HX1.out HN1.out
  have HX2 : Hid ((setBlock w2 m (.map (#[ent 1 (SureV b1) 0].push (ent 2 (SureV b2) 1)) (1 + 1))).heap[b2]? = some (FBox 15)) := set_other HX2.out HN2.out
  obtain ⟨W2, hW2⟩ : ∃ X, Hid (setBlock w2 m (.map (#[ent 1 (SureV b1) 0].push (ent 2 (SureV b2) 1)) (1 + 1)) = X) := ⟨_, rfl⟩
  rw [hW2.out] at HMb2 HBb2 HX1 HX2
  have hx2 := hW2.out
  unfold SureV at hx2
  rw [hx2] at hi
  clear hw hbx hx2
  unfold SureV
  go_wp2_with fail
  clear hi
  refine (HS.out 17 _).mono ?_
  rintro r w3 ⟨rfl, hw⟩
  have HM3 : Hid (w3.heap[m]? = some (.map #[ent 1 (SureV b1) 0, ent 2 (SureV b2) 1] 2)) := by rw [hw]; exact al_other HMb2.out
  have HB3 : Hid (Below w.heap.size w w3) := by rw [hw]; exact HBb2.out.alloc HBb2.out.size _
  have HX3 : Hid (w3.heap[W2.heap.size]? = some (FBox 17)) := by rw [hw]; exact new_blk _ _ _ rfl
  have HX1 : Hid (w3.heap[b1]? = some (FBox 13)) := by rw [hw]; exact al_other HX1.out
  have HX2 : Hid (w3.heap[b2]? = some (FBox 15)) := by rw [hw]; exact al_other HX2.out
  obtain ⟨b3, hb3⟩ : ∃ X, Hid (W2.heap.size = X) := ⟨_, rfl⟩
  have HN3 : Hid (b3 ≠ m) := by
    have h1 := (Array.getElem?_eq_some_iff.1 HMb2.out).1
    have h2 := hb3.out
    show b3 ≠ m
    omega
  rw [hb3.out] at HX3
  have hbx := hb3.out
  (try rw [set_size] at hbx)
  (try rw [hbx])
  (try rw [hb3.out])
  have hi := ins_new w3 m #[ent 1 (SureV b1) 0, ent 2 (SureV b2) 1] 2 3 (SureV b3) HM3.out (by rfl)
  unfold SureV at hi
  have HMb3 : Hid ((setBlock w3 m (.map (#[ent 1 (SureV b1) 0, ent 2 (SureV b2) 1].push (ent 3 (SureV b3) 2)) (2 + 1))).heap[m]? = some (.map #[ent 1 (SureV b1) 0, ent 2 (SureV b2) 1, ent 3 (SureV b3) 2] 3)) := set_blk HM3.out
  have HBb3 : Hid (Below w.heap.size w (setBlock w3 m (.map (#[ent 1 (SureV b1) 0, ent 2 (SureV b2) 1].push (ent 3 (SureV b3) 2)) (2 + 1)))) := set_below HB3.out HMB.out
  have HX1 : Hid ((setBlock w3 m (.map (#[ent 1 (SureV b1) 0, ent 2 (SureV b2) 1].push (ent 3 (SureV b3) 2)) (2 + 1))).heap[b1]? = some (FBox 13)) := set_other HX1.out HN1.out
  have HX2 : Hid ((setBlock w3 m (.map (#[ent 1 (SureV b1) 0, ent 2 (SureV b2) 1].push (ent 3 (SureV b3) 2)) (2 + 1))).heap[b2]? = some (FBox 15)) := set_other HX2.out HN2.out
  have HX3 : Hid ((setBlock w3 m (.map (#[ent 1 (SureV b1) 0, ent 2 (SureV b2) 1].push (ent 3 (SureV b3) 2)) (2 + 1))).heap[b3]? = some (FBox 17)) := set_other HX3.out HN3.out
  obtain ⟨W3, hW3⟩ : ∃ X, Hid (setBlock w3 m (.map (#[ent 1 (SureV b1) 0, ent 2 (SureV b2) 1].push (ent 3 (SureV b3) 2)) (2 + 1)) = X) := ⟨_, rfl⟩
  rw [hW3.out] at HMb3 HBb3 HX1 HX2 HX3
  have hx3 := hW3.out
  unfold SureV at hx3
  rw [hx3] at hi
  clear hw hbx hx3
  unfold SureV
  go_wp2_with fail
  clear hi
  refine (HS.out 19 _).mono ?_
  rintro r w4 ⟨rfl, hw⟩
  have HM4 : Hid (w4.heap[m]? = some (.map #[ent 1 (SureV b1) 0, ent 2 (SureV b2) 1, ent 3 (SureV b3) 2] 3)) := by rw [hw]; exact al_other HMb3.out
  have HB4 : Hid (Below w.heap.size w w4) := by rw [hw]; exact HBb3.out.alloc HBb3.out.size _
  have HX4 : Hid (w4.heap[W3.heap.size]? = some (FBox 19)) := by rw [hw]; exact new_blk _ _ _ rfl
  have HX1 : Hid (w4.heap[b1]? = some (FBox 13)) := by rw [hw]; exact al_other HX1.out
  have HX2 : Hid (w4.heap[b2]? = some (FBox 15)) := by rw [hw]; exact al_other HX2.out
  have HX3 : Hid (w4.heap[b3]? = some (FBox 17)) := by rw [hw]; exact al_other HX3.out
  obtain ⟨b4, hb4⟩ : ∃ X, Hid (W3.heap.size = X) := ⟨_, rfl⟩
  have HN4 : Hid (b4 ≠ m) := by
    have h1 := (Array.getElem?_eq_some_iff.1 HMb3.out).1
    have h2 := hb4.out
    show b4 ≠ m
    omega
  rw [hb4.out] at HX4
  have hbx := hb4.out
  (try rw [set_size] at hbx)
  (try rw [hbx])
  (try rw [hb4.out])
  have hi := ins_new w4 m #[ent 1 (SureV b1) 0, ent 2 (SureV b2) 1, ent 3 (SureV b3) 2] 3 4 (SureV b4) HM4.out (by rfl)
  unfold SureV at hi
  have HMb4 : Hid ((setBlock w4 m (.map (#[ent 1 (SureV b1) 0, ent 2 (SureV b2) 1, ent 3 (SureV b3) 2].push (ent 4 (SureV b4) 3)) (3 + 1))).heap[m]? = some (.map #[ent 1 (SureV b1) 0, ent 2 (SureV b2) 1, ent 3 (SureV b3) 2, ent 4 (SureV b4) 3] 4)) := set_blk HM4.out
  have HBb4 : Hid (Below w.heap.size w (setBlock w4 m (.map (#[ent 1 (SureV b1) 0, ent 2 (SureV b2) 1, ent 3 (SureV b3) 2].push (ent 4 (SureV b4) 3)) (3 + 1)))) := set_below HB4.out HMB.out
  have HX1 : Hid ((setBlock w4 m (.map (#[ent 1 (SureV b1) 0, ent 2 (SureV b2) 1, ent 3 (SureV b3) 2].push (ent 4 (SureV b4) 3)) (3 + 1))).heap[b1]? = some (FBox 13)) := set_other HX1.out HN1.out
  have HX2 : Hid ((setBlock w4 m (.map (#[ent 1 (SureV b1) 0, ent 2 (SureV b2) 1, ent 3 (SureV b3) 2].push (ent 4 (SureV b4) 3)) (3 + 1))).heap[b2]? = some (FBox 15)) := set_other HX2.out HN2.out
  have HX3 : Hid ((setBlock w4 m (.map (#[ent 1 (SureV b1) 0, ent 2 (SureV b2) 1, ent 3 (SureV b3) 2].push (ent 4 (SureV b4) 3)) (3 + 1))).heap[b3]? = some (FBox 17)) := set_other HX3.out HN3.out
  have HX4 : Hid ((setBlock w4 m (.map (#[ent 1 (SureV b1) 0, ent 2 (SureV b2) 1, ent 3 (SureV b3) 2].push (ent 4 (SureV b4) 3)) (3 + 1))).heap[b4]? = some (FBox 19)) := set_other HX4.out HN4.out
  obtain ⟨W4, hW4⟩ : ∃ X, Hid (setBlock w4 m (.map (#[ent 1 (SureV b1) 0, ent 2 (SureV b2) 1, ent 3 (SureV b3) 2].push (ent 4 (SureV b4) 3)) (3 + 1)) = X) := ⟨_, rfl⟩
  rw [hW4.out] at HMb4 HBb4 HX1 HX2 HX3 HX4
  have hx4 := hW4.out
  unfold SureV at hx4
  rw [hx4] at hi
  clear hw hbx hx4
  unfold SureV
  have hi2 := ins_new W4 m #[ent 1 (SureV b1) 0, ent 2 (SureV b2) 1, ent 3 (SureV b3) 2, ent 4 (SureV b4) 3] 4 5 (.func (.func 9) #[] #[]) HMb4.out (by rfl)
  have HFM : Hid (WayM (setBlock W4 m (.map (#[ent 1 (SureV b1) 0, ent 2 (SureV b2) 1, ent 3 (SureV b3) 2, ent 4 (SureV b4) 3].push (ent 5 (.func (.func 9) #[] #[]) 4)) (4 + 1))) m b1 b2 b3 b4) := ⟨set_blk HMb4.out, set_other HX1.out HN1.out, set_other HX2.out HN2.out, set_other HX3.out HN3.out, set_other HX4.out HN4.out⟩
  have HFB : Hid (Below w.heap.size w (setBlock W4 m (.map (#[ent 1 (SureV b1) 0, ent 2 (SureV b2) 1, ent 3 (SureV b3) 2, ent 4 (SureV b4) 3].push (ent 5 (.func (.func 9) #[] #[]) 4)) (4 + 1)))) := set_below HBb4.out HMB.out
  go_wp2
  go_ret
  exact ⟨m, b1, b2, b3, b4, rfl, HFM.out, HFB.out⟩
end Go.Proofs.YtehnkgonhgjeiaaGreatDoor
