
/- sum.Sum by any way. -/
import Derived.Test.YtehnkgonhgjeiaaGreatDoorP48
import Derived.Test.YtehnkgonhgjeiaaGreatDoorP47
import Derived.Test.YtehnkgonhgjeiaaGreatDoorP46
namespace Go.Proofs.YtehnkgonhgjeiaaGreatDoor
open Go.RowKit Go.IntWalk Go.ChangeMaps

def wayV (way : Int) (xs : List Nat) (n : Nat) : Nat := if way = 1 then sumC xs else if way = 2 then pairN n xs else if way = 3 then kahC xs else if way = 4 then neuC xs else if way = 5 then exV xs n else 0
def wayR (way : Int) (n : Nat) : Int := if way = 1 then 0 else if way = 2 then 0 else if way = 3 then 0 else if way = 4 then 0 else if way = 5 then exE n else 50
/-- A list of numbers, and its room. -/
def LstC (w : World) (sa : Option Addr) (n cap : Nat) (xs : List Nat) : Prop := ListAt w sa n cap xs ∧ (n ≠ 0 → n ≤ cap ∧ cap ≤ 9223372036854775807)
theorem LstC.below {w w' : World} {sa : Option Addr} {n cap : Nat} {xs : List Nat} (h : LstC w sa n cap xs) (hb : Below w.heap.size w w') : LstC w' sa n cap xs := ⟨h.1.below hb, h.2⟩
set_option maxHeartbeats 400000 in
theorem Pairs_nil (w : World) : Calls Tryz.prog 15 #[.slice none 0 0] w fun r w' => r = .returned (.float .f64 0) ∧ Below w.heap.size w w' := by
  go_enter Tryz.func15, Tryz.ntmps15
  go_wp2
  go_ret
  exact ⟨rfl, Below.refl _ _⟩
set_option maxHeartbeats 400000 in
theorem rPairs_nil (w : World) : Calls Tryz.prog 16 #[.slice none 0 0] w fun r w' => r = .returned (.float .f64 0) ∧ Below w.heap.size w w' := by
  go_enter Tryz.func16, Tryz.ntmps16
  go_wp2
  go_ret
  exact ⟨rfl, Below.refl _ _⟩
theorem Pairs_any (sa : Option Addr) (n cap : Nat) (xs : List Nat) (w : World) (hl : LstC w sa n cap xs) (hb : ∀ x ∈ xs, x < 18446744073709551616) (hn : n ≤ 17592186043904) :
    Calls Tryz.prog 15 #[.slice sa n cap] w fun r w' => r = .returned (.float .f64 (pairN n xs)) ∧ Below w.heap.size w w' := by
  obtain ⟨⟨h1, ⟨rfl, h2, rfl⟩ | ⟨h2, b, rfl, h3⟩⟩, h4⟩ := hl
  · subst h2
    exact Pairs_nil w
  · exact Pairs_fuel n xs b 0 n cap w h1 (Nat.le_refl _) hn (h4 h2).1 (h4 h2).2 hb h3.1 (fun j hj => h3.2 j (by omega))
theorem rPairs_any (sa : Option Addr) (n cap : Nat) (xs : List Nat) (w : World) (hl : LstC w sa n cap xs) (hb : ∀ x ∈ xs, x < 18446744073709551616) (hn : n ≤ 17592186043904) :
    Calls Tryz.prog 16 #[.slice sa n cap] w fun r w' => r = .returned (.float .f64 (pairN n xs)) ∧ Below w.heap.size w w' := by
  obtain ⟨⟨h1, ⟨rfl, h2, rfl⟩ | ⟨h2, b, rfl, h3⟩⟩, h4⟩ := hl
  · subst h2
    exact rPairs_nil w
  · exact rPairs_fuel n xs b 0 n cap w h1 (Nat.le_refl _) hn (h4 h2).1 (h4 h2).2 hb h3.1 (fun j hj => h3.2 j (by omega))
set_option maxHeartbeats 400000 in
/-- The way Left made sure. -/
theorem sureLeft (b V : Nat) (sa : Option Addr) (n cap : Nat) (w : World) (hb : w.heap[b]? = some (FBox 13)) (hf : Calls Tryz.prog 13 #[.slice sa n cap] w fun r w' => r = .returned (.float .f64 V) ∧ Below w.heap.size w w') :
    Calls Tryz.prog 143 #[.slice sa n cap, .pointer (some ⟨b, 0, none⟩)] w fun r w' => r = .returned (.tuple #[.float .f64 V, .int .i64 0]) ∧ Below w.heap.size w w' := by
  have hc : w.cell? ⟨b, 0, none⟩ = some (.func (.func 13) #[] #[]) := by simp [World.cell?, hb, FBox]
  have HF := hid hf
  clear hb hf
  go_enter Tryz.func143, Tryz.ntmps143
  go_wp2_with fail
  refine HF.out.mono ?_
  rintro r w1 ⟨rfl, hb1⟩
  go_wp2
  go_ret2
  exact ⟨rfl, hb1⟩
set_option maxHeartbeats 400000 in
/-- The way Pairs made sure. -/
theorem surePairs (b V : Nat) (sa : Option Addr) (n cap : Nat) (w : World) (hb : w.heap[b]? = some (FBox 15)) (hf : Calls Tryz.prog 15 #[.slice sa n cap] w fun r w' => r = .returned (.float .f64 V) ∧ Below w.heap.size w w') :
    Calls Tryz.prog 143 #[.slice sa n cap, .pointer (some ⟨b, 0, none⟩)] w fun r w' => r = .returned (.tuple #[.float .f64 V, .int .i64 0]) ∧ Below w.heap.size w w' := by
  have hc : w.cell? ⟨b, 0, none⟩ = some (.func (.func 15) #[] #[]) := by simp [World.cell?, hb, FBox]
  have HF := hid hf
  clear hb hf
  go_enter Tryz.func143, Tryz.ntmps143
  go_wp2_with fail
  refine HF.out.mono ?_
  rintro r w1 ⟨rfl, hb1⟩
  go_wp2
  go_ret2
  exact ⟨rfl, hb1⟩
set_option maxHeartbeats 400000 in
/-- The way Kahan made sure. -/
theorem sureKahan (b V : Nat) (sa : Option Addr) (n cap : Nat) (w : World) (hb : w.heap[b]? = some (FBox 17)) (hf : Calls Tryz.prog 17 #[.slice sa n cap] w fun r w' => r = .returned (.float .f64 V) ∧ Below w.heap.size w w') :
    Calls Tryz.prog 143 #[.slice sa n cap, .pointer (some ⟨b, 0, none⟩)] w fun r w' => r = .returned (.tuple #[.float .f64 V, .int .i64 0]) ∧ Below w.heap.size w w' := by
  have hc : w.cell? ⟨b, 0, none⟩ = some (.func (.func 17) #[] #[]) := by simp [World.cell?, hb, FBox]
  have HF := hid hf
  clear hb hf
  go_enter Tryz.func143, Tryz.ntmps143
  go_wp2_with fail
  refine HF.out.mono ?_
  rintro r w1 ⟨rfl, hb1⟩
  go_wp2
  go_ret2
  exact ⟨rfl, hb1⟩
set_option maxHeartbeats 400000 in
/-- The way Neu made sure. -/
theorem sureNeu (b V : Nat) (sa : Option Addr) (n cap : Nat) (w : World) (hb : w.heap[b]? = some (FBox 19)) (hf : Calls Tryz.prog 19 #[.slice sa n cap] w fun r w' => r = .returned (.float .f64 V) ∧ Below w.heap.size w w') :
    Calls Tryz.prog 143 #[.slice sa n cap, .pointer (some ⟨b, 0, none⟩)] w fun r w' => r = .returned (.tuple #[.float .f64 V, .int .i64 0]) ∧ Below w.heap.size w w' := by
  have hc : w.cell? ⟨b, 0, none⟩ = some (.func (.func 19) #[] #[]) := by simp [World.cell?, hb, FBox]
  have HF := hid hf
  clear hb hf
  go_enter Tryz.func143, Tryz.ntmps143
  go_wp2_with fail
  refine HF.out.mono ?_
  rintro r w1 ⟨rfl, hb1⟩
  go_wp2
  go_ret2
  exact ⟨rfl, hb1⟩
end Go.Proofs.YtehnkgonhgjeiaaGreatDoor

namespace Go.Proofs.YtehnkgonhgjeiaaGreatDoor
open Go.RowKit Go.IntWalk Go.ChangeMaps

set_option maxHeartbeats 1000000 in
theorem rSum1 (sa : Option Addr) (n cap : Nat) (xs : List Nat) (w : World) (hl : LstC w sa n cap xs) (hb : ∀ x ∈ xs, x < 18446744073709551616) (hn : n ≤ 17592186043904) :
    Calls Tryz.prog 10 #[.slice sa n cap, .int .i64 1] w fun r w' => r = .returned (.tuple #[.float .f64 (wayV 1 xs n), .int .i64 (wayR 1 n)]) ∧ Below w.heap.size w w' := by
  have HC := hid (rLeft_any sa n cap xs hb (by have := hl.1.1; omega) w hl.1.flt)
  clear hl hb hn
  go_enter Tryz.func10, Tryz.ntmps10
  go_wp2_with fail
  refine HC.out.mono ?_
  rintro r w1 ⟨rfl, hb1⟩
  go_wp2_with fail
  go_ret2
  exact ⟨rfl, hb1⟩
set_option maxHeartbeats 1000000 in
theorem pSum1 (sa : Option Addr) (n cap : Nat) (xs : List Nat) (w : World) (hl : LstC w sa n cap xs) (hb : ∀ x ∈ xs, x < 18446744073709551616) (hn : n ≤ 17592186043904) :
    Calls Tryz.prog 11 #[.slice sa n cap, .int .i64 1] w fun r w' => r = .returned (.tuple #[.float .f64 (wayV 1 xs n), .int .i64 (wayR 1 n)]) ∧ Below w.heap.size w w' := by
  have HW := hid (ways_any w)
  have HC := hid (fun (W : World) (hl : LstC W sa n cap xs) => (Left_any sa n cap xs hb (by have := hl.1.1; omega) W hl.1.flt))
  have HL := hid hl
  clear hl hb hn
  go_enter Tryz.func11, Tryz.ntmps11
  go_wp2_with fail
  refine HW.out.mono ?_
  rintro r W ⟨m, b1, b2, b3, b4, rfl, ⟨q0, q1, q2, q3, q4⟩, hb1⟩
  have hk := look_yes W m (WayE b1 b2 b3 b4) 5 1 0 (SureV b1) q0 (by rfl)
  have HQ := hid q1
  have HB1 := hid hb1
  clear q0 q1 q2 q3 q4 hb1 HW
  unfold SureV at hk
  go_wp2_with fail
  refine (sureLeft b1 _ sa n cap W HQ.out (HC.out W (HL.out.below HB1.out))).mono ?_
  rintro r w2 ⟨rfl, hb2⟩
  go_wp2_with fail
  go_ret2
  exact ⟨rfl, HB1.out.trans (hb2.mono HB1.out.size)⟩
set_option maxHeartbeats 1000000 in
theorem rSum2 (sa : Option Addr) (n cap : Nat) (xs : List Nat) (w : World) (hl : LstC w sa n cap xs) (hb : ∀ x ∈ xs, x < 18446744073709551616) (hn : n ≤ 17592186043904) :
    Calls Tryz.prog 10 #[.slice sa n cap, .int .i64 2] w fun r w' => r = .returned (.tuple #[.float .f64 (wayV 2 xs n), .int .i64 (wayR 2 n)]) ∧ Below w.heap.size w w' := by
  have HC := hid (rPairs_any sa n cap xs w hl hb hn)
  clear hl hb hn
  go_enter Tryz.func10, Tryz.ntmps10
  go_wp2_with fail
  refine HC.out.mono ?_
  rintro r w1 ⟨rfl, hb1⟩
  go_wp2_with fail
  go_ret2
  exact ⟨rfl, hb1⟩
set_option maxHeartbeats 1000000 in
theorem pSum2 (sa : Option Addr) (n cap : Nat) (xs : List Nat) (w : World) (hl : LstC w sa n cap xs) (hb : ∀ x ∈ xs, x < 18446744073709551616) (hn : n ≤ 17592186043904) :
    Calls Tryz.prog 11 #[.slice sa n cap, .int .i64 2] w fun r w' => r = .returned (.tuple #[.float .f64 (wayV 2 xs n), .int .i64 (wayR 2 n)]) ∧ Below w.heap.size w w' := by
  have HW := hid (ways_any w)
  have HC := hid (fun (W : World) (hl : LstC W sa n cap xs) => (Pairs_any sa n cap xs W hl hb hn))
  have HL := hid hl
  clear hl hb hn
  go_enter Tryz.func11, Tryz.ntmps11
  go_wp2_with fail
  refine HW.out.mono ?_
  rintro r W ⟨m, b1, b2, b3, b4, rfl, ⟨q0, q1, q2, q3, q4⟩, hb1⟩
  have hk := look_yes W m (WayE b1 b2 b3 b4) 5 2 1 (SureV b2) q0 (by rfl)
  have HQ := hid q2
  have HB1 := hid hb1
  clear q0 q1 q2 q3 q4 hb1 HW
  unfold SureV at hk
  go_wp2_with fail
  refine (surePairs b2 _ sa n cap W HQ.out (HC.out W (HL.out.below HB1.out))).mono ?_
  rintro r w2 ⟨rfl, hb2⟩
  go_wp2_with fail
  go_ret2
  exact ⟨rfl, HB1.out.trans (hb2.mono HB1.out.size)⟩
set_option maxHeartbeats 1000000 in
theorem rSum3 (sa : Option Addr) (n cap : Nat) (xs : List Nat) (w : World) (hl : LstC w sa n cap xs) (hb : ∀ x ∈ xs, x < 18446744073709551616) (hn : n ≤ 17592186043904) :
    Calls Tryz.prog 10 #[.slice sa n cap, .int .i64 3] w fun r w' => r = .returned (.tuple #[.float .f64 (wayV 3 xs n), .int .i64 (wayR 3 n)]) ∧ Below w.heap.size w w' := by
  have HC := hid (rKah_any sa n cap xs hb (by have := hl.1.1; omega) w hl.1.flt)
  clear hl hb hn
  go_enter Tryz.func10, Tryz.ntmps10
  go_wp2_with fail
  refine HC.out.mono ?_
  rintro r w1 ⟨rfl, hb1⟩
  go_wp2_with fail
  go_ret2
  exact ⟨rfl, hb1⟩
set_option maxHeartbeats 1000000 in
theorem pSum3 (sa : Option Addr) (n cap : Nat) (xs : List Nat) (w : World) (hl : LstC w sa n cap xs) (hb : ∀ x ∈ xs, x < 18446744073709551616) (hn : n ≤ 17592186043904) :
    Calls Tryz.prog 11 #[.slice sa n cap, .int .i64 3] w fun r w' => r = .returned (.tuple #[.float .f64 (wayV 3 xs n), .int .i64 (wayR 3 n)]) ∧ Below w.heap.size w w' := by
  have HW := hid (ways_any w)
  have HC := hid (fun (W : World) (hl : LstC W sa n cap xs) => (Kah_any sa n cap xs hb (by have := hl.1.1; omega) W hl.1.flt))
  have HL := hid hl
  clear hl hb hn
  go_enter Tryz.func11, Tryz.ntmps11
  go_wp2_with fail
  refine HW.out.mono ?_
  rintro r W ⟨m, b1, b2, b3, b4, rfl, ⟨q0, q1, q2, q3, q4⟩, hb1⟩
  have hk := look_yes W m (WayE b1 b2 b3 b4) 5 3 2 (SureV b3) q0 (by rfl)
  have HQ := hid q3
  have HB1 := hid hb1
  clear q0 q1 q2 q3 q4 hb1 HW
  unfold SureV at hk
  go_wp2_with fail
  refine (sureKahan b3 _ sa n cap W HQ.out (HC.out W (HL.out.below HB1.out))).mono ?_
  rintro r w2 ⟨rfl, hb2⟩
  go_wp2_with fail
  go_ret2
  exact ⟨rfl, HB1.out.trans (hb2.mono HB1.out.size)⟩
set_option maxHeartbeats 1000000 in
theorem rSum4 (sa : Option Addr) (n cap : Nat) (xs : List Nat) (w : World) (hl : LstC w sa n cap xs) (hb : ∀ x ∈ xs, x < 18446744073709551616) (hn : n ≤ 17592186043904) :
    Calls Tryz.prog 10 #[.slice sa n cap, .int .i64 4] w fun r w' => r = .returned (.tuple #[.float .f64 (wayV 4 xs n), .int .i64 (wayR 4 n)]) ∧ Below w.heap.size w w' := by
  have HC := hid (rNeum_any sa n cap xs hb (by have := hl.1.1; omega) w hl.1.flt)
  clear hl hb hn
  go_enter Tryz.func10, Tryz.ntmps10
  go_wp2_with fail
  refine HC.out.mono ?_
  rintro r w1 ⟨rfl, hb1⟩
  go_wp2_with fail
  go_ret2
  exact ⟨rfl, hb1⟩
set_option maxHeartbeats 1000000 in
theorem pSum4 (sa : Option Addr) (n cap : Nat) (xs : List Nat) (w : World) (hl : LstC w sa n cap xs) (hb : ∀ x ∈ xs, x < 18446744073709551616) (hn : n ≤ 17592186043904) :
    Calls Tryz.prog 11 #[.slice sa n cap, .int .i64 4] w fun r w' => r = .returned (.tuple #[.float .f64 (wayV 4 xs n), .int .i64 (wayR 4 n)]) ∧ Below w.heap.size w w' := by
  have HW := hid (ways_any w)
  have HC := hid (fun (W : World) (hl : LstC W sa n cap xs) => (Neum_any sa n cap xs hb (by have := hl.1.1; omega) W hl.1.flt))
  have HL := hid hl
  clear hl hb hn
  go_enter Tryz.func11, Tryz.ntmps11
  go_wp2_with fail
  refine HW.out.mono ?_
  rintro r W ⟨m, b1, b2, b3, b4, rfl, ⟨q0, q1, q2, q3, q4⟩, hb1⟩
  have hk := look_yes W m (WayE b1 b2 b3 b4) 5 4 3 (SureV b4) q0 (by rfl)
  have HQ := hid q4
  have HB1 := hid hb1
  clear q0 q1 q2 q3 q4 hb1 HW
  unfold SureV at hk
  go_wp2_with fail
  refine (sureNeu b4 _ sa n cap W HQ.out (HC.out W (HL.out.below HB1.out))).mono ?_
  rintro r w2 ⟨rfl, hb2⟩
  go_wp2_with fail
  go_ret2
  exact ⟨rfl, HB1.out.trans (hb2.mono HB1.out.size)⟩
set_option maxHeartbeats 1000000 in
theorem rSum5 (sa : Option Addr) (n cap : Nat) (xs : List Nat) (w : World) (hl : LstC w sa n cap xs) (hb : ∀ x ∈ xs, x < 18446744073709551616) (hn : n ≤ 17592186043904) (hT3 : Tab32 w) (hs : 2 < w.heap.size) :
    Calls Tryz.prog 10 #[.slice sa n cap, .int .i64 5] w fun r w' => r = .returned (.tuple #[.float .f64 (wayV 5 xs n), .int .i64 (wayR 5 n)]) ∧ Below w.heap.size w w' := by
  have HC := hid (rExact_any sa n cap xs w hl.1 hb hn hT3 hs)
  clear hl hb hn hT3 hs
  go_enter Tryz.func10, Tryz.ntmps10
  go_wp2_with fail
  refine HC.out.mono ?_
  rintro r w1 ⟨rfl, hb1⟩
  go_wp2_with fail
  go_ret2
  exact ⟨rfl, hb1⟩
set_option maxHeartbeats 1000000 in
theorem pSum5 (sa : Option Addr) (n cap : Nat) (xs : List Nat) (w : World) (hl : LstC w sa n cap xs) (hb : ∀ x ∈ xs, x < 18446744073709551616) (hn : n ≤ 17592186043904) (hT : Tab w) (hg : 3 < w.heap.size) (hT3 : Tab32 w) (hs : 2 < w.heap.size) :
    Calls Tryz.prog 11 #[.slice sa n cap, .int .i64 5] w fun r w' => r = .returned (.tuple #[.float .f64 (wayV 5 xs n), .int .i64 (wayR 5 n)]) ∧ Below w.heap.size w w' := by
  have HW := hid (ways_any w)
  have HC := hid (fun (W : World) (hW : Below w.heap.size w W) => Exact_any sa n cap xs W (hl.below hW).1 hb hn (hT.below hg hW) (Nat.lt_of_lt_of_le hg hW.size) (hT3.below hs hW) (Nat.lt_of_lt_of_le hs hW.size))
  clear hl hb hn hT hg hT3 hs
  go_enter Tryz.func11, Tryz.ntmps11
  go_wp2_with fail
  refine HW.out.mono ?_
  rintro r W ⟨m, b1, b2, b3, b4, rfl, ⟨q0, q1, q2, q3, q4⟩, hb1⟩
  have hk := look_yes W m (WayE b1 b2 b3 b4) 5 5 4 (.func (.func 9) #[] #[]) q0 (by rfl)
  have HB1 := hid hb1
  clear q0 q1 q2 q3 q4 hb1 HW
  go_wp2_with fail
  refine (HC.out W HB1.out).mono ?_
  rintro r w2 ⟨rfl, hb2⟩
  go_wp2_with fail
  go_ret2
  exact ⟨rfl, HB1.out.trans (hb2.mono HB1.out.size)⟩
set_option maxHeartbeats 1000000 in
theorem rSumN (sa : Option Addr) (n cap : Nat) (way : Int) (w : World) (h1 : way ≠ 1) (h2 : way ≠ 2) (h3 : way ≠ 3) (h4 : way ≠ 4) (h5 : way ≠ 5) :
    Calls Tryz.prog 10 #[.slice sa n cap, .int .i64 way] w fun r w' => r = .returned (.tuple #[.float .f64 0, .int .i64 50]) ∧ Below w.heap.size w w' := by
  go_enter Tryz.func10, Tryz.ntmps10
  go_wp2_with fail
  go_ret2
  exact ⟨rfl, Below.refl _ _⟩
theorem zero_adder (w : World) : (zeroValue 72).run Tryz.prog w = .ok .nilFunc w := by
  have hz : Tryz.t72.zero = some .nilFunc := by kernel_rfl
  simp [zeroValue, hz]
set_option maxHeartbeats 1000000 in
theorem pSumN (sa : Option Addr) (n cap : Nat) (way : Int) (w : World) (h1 : way ≠ 1) (h2 : way ≠ 2) (h3 : way ≠ 3) (h4 : way ≠ 4) (h5 : way ≠ 5) :
    Calls Tryz.prog 11 #[.slice sa n cap, .int .i64 way] w fun r w' => r = .returned (.tuple #[.float .f64 0, .int .i64 50]) ∧ Below w.heap.size w w' := by
  have HW := hid (ways_any w)
  have HK : Hid (∀ b1 b2 b3 b4, Instr.findNow (.int .i64) (.int .i64 way) (WayE b1 b2 b3 b4).toList 0 = some none) := by
    intro b1 b2 b3 b4
    have e1 : (way == 1) = false := beq_false_of_ne h1
    have e2 : (way == 2) = false := beq_false_of_ne h2
    have e3 : (way == 3) = false := beq_false_of_ne h3
    have e4 : (way == 4) = false := beq_false_of_ne h4
    have e5 : (way == 5) = false := beq_false_of_ne h5
    simp only [WayE, ent, Instr.findNow, Instr.sameNow]
    rw [e1, e2, e3, e4, e5]
    rfl
  clear h1 h2 h3 h4 h5
  go_enter Tryz.func11, Tryz.ntmps11
  go_wp2_with fail
  refine HW.out.mono ?_
  rintro r W ⟨m, b1, b2, b3, b4, rfl, ⟨q0, q1, q2, q3, q4⟩, hb1⟩
  have hk := look_no W m (WayE b1 b2 b3 b4) 5 way .nilFunc (zero_adder W) q0 (HK.out b1 b2 b3 b4)
  have HB1 := hid hb1
  clear q0 q1 q2 q3 q4 hb1 HW
  go_wp2_with fail
  go_ret2
  exact ⟨rfl, HB1.out⟩
theorem rSum_any (way : Int) (sa : Option Addr) (n cap : Nat) (xs : List Nat) (w : World) (hl : LstC w sa n cap xs) (hb : ∀ x ∈ xs, x < 18446744073709551616) (hn : n ≤ 17592186043904) (hT3 : Tab32 w) (hs : 2 < w.heap.size) :
    Calls Tryz.prog 10 #[.slice sa n cap, .int .i64 way] w fun r w' => r = .returned (.tuple #[.float .f64 (wayV way xs n), .int .i64 (wayR way n)]) ∧ Below w.heap.size w w' := by
  by_cases h1 : way = 1
  · subst h1; exact rSum1 sa n cap xs w hl hb hn
  by_cases h2 : way = 2
  · subst h2; exact rSum2 sa n cap xs w hl hb hn
  by_cases h3 : way = 3
  · subst h3; exact rSum3 sa n cap xs w hl hb hn
  by_cases h4 : way = 4
  · subst h4; exact rSum4 sa n cap xs w hl hb hn
  by_cases h5 : way = 5
  · subst h5; exact rSum5 sa n cap xs w hl hb hn hT3 hs
  have e1 : wayV way xs n = 0 := by unfold wayV; rw [if_neg h1, if_neg h2, if_neg h3, if_neg h4, if_neg h5]
  have e2 : wayR way n = 50 := by unfold wayR; rw [if_neg h1, if_neg h2, if_neg h3, if_neg h4, if_neg h5]
  rw [e1, e2]
  exact rSumN sa n cap way w h1 h2 h3 h4 h5
theorem pSum_any (way : Int) (sa : Option Addr) (n cap : Nat) (xs : List Nat) (w : World) (hl : LstC w sa n cap xs) (hb : ∀ x ∈ xs, x < 18446744073709551616) (hn : n ≤ 17592186043904) (hT : Tab w) (hg : 3 < w.heap.size) (hT3 : Tab32 w) (hs : 2 < w.heap.size) :
    Calls Tryz.prog 11 #[.slice sa n cap, .int .i64 way] w fun r w' => r = .returned (.tuple #[.float .f64 (wayV way xs n), .int .i64 (wayR way n)]) ∧ Below w.heap.size w w' := by
  by_cases h1 : way = 1
  · subst h1; exact pSum1 sa n cap xs w hl hb hn
  by_cases h2 : way = 2
  · subst h2; exact pSum2 sa n cap xs w hl hb hn
  by_cases h3 : way = 3
  · subst h3; exact pSum3 sa n cap xs w hl hb hn
  by_cases h4 : way = 4
  · subst h4; exact pSum4 sa n cap xs w hl hb hn
  by_cases h5 : way = 5
  · subst h5; exact pSum5 sa n cap xs w hl hb hn hT hg hT3 hs
  have e1 : wayV way xs n = 0 := by unfold wayV; rw [if_neg h1, if_neg h2, if_neg h3, if_neg h4, if_neg h5]
  have e2 : wayR way n = 50 := by unfold wayR; rw [if_neg h1, if_neg h2, if_neg h3, if_neg h4, if_neg h5]
  rw [e1, e2]
  exact pSumN sa n cap way w h1 h2 h3 h4 h5
end Go.Proofs.YtehnkgonhgjeiaaGreatDoor

namespace Go.Proofs.YtehnkgonhgjeiaaGreatDoor
open Go.RowKit Go.IntWalk

theorem kahC_canon (xs : List Nat) : kahC xs < 18446744073709551616 ∧ canonOf (kahC xs) = kahC xs := by
  rcases List.eq_nil_or_concat xs with rfl | ⟨ys, y, rfl⟩
  · decide +kernel
  · unfold kahC
    rw [List.concat_eq_append, kahP_snoc]
    exact ⟨caf_lt .add (Or.inl rfl) _ _, caf_can .add _ _⟩
theorem neuC_canon (xs : List Nat) : neuC xs < 18446744073709551616 ∧ canonOf (neuC xs) = neuC xs := ⟨caf_lt .add (Or.inl rfl) _ _, caf_can .add _ _⟩
theorem exV_canon (xs : List Nat) (n : Nat) : exV xs n < 18446744073709551616 ∧ canonOf (exV xs n) = exV xs n := by
  unfold exV
  split
  · decide
  · split
    · unfold exactN
      split
      · decide
      · exact rndI_canon _ _
    · exact ⟨sumC_lt _, sumC_can _⟩
theorem wayV_canon (way : Int) (xs : List Nat) (n : Nat) (hx : ∀ x ∈ xs, x < 18446744073709551616) : wayV way xs n < 18446744073709551616 ∧ canonOf (wayV way xs n) = wayV way xs n := by
  unfold wayV
  split
  · exact ⟨sumC_lt _, sumC_can _⟩
  split
  · exact pairN_lt n xs hx
  split
  · exact kahC_canon xs
  split
  · exact neuC_canon xs
  split
  · exact exV_canon xs n
  · decide
theorem Of64_lstc (sa : Option Addr) (sn sc : Nat) (xs : List Nat) (w : World) (hu : U64At w sa sn xs) (hn : sn ≤ 17592186043904) :
    Calls Tryz.prog 7 #[.slice sa sn sc] w fun r w' => ∃ ta cap, r = .returned (.slice ta sn cap) ∧ LstC w' ta sn cap xs ∧ Below w.heap.size w w' := by
  refine (Of64_any sa sn sc xs w hu hn).mono ?_
  rintro r w' ⟨v, rfl, h1, h2, h3⟩
  obtain ⟨ta, cap, rfl, h4⟩ := owns_list h1 h2
  have h5 : sn ≠ 0 → sn ≤ cap ∧ cap ≤ 9223372036854775807 := fun h0 => by
    rcases h1.2 with ⟨_, e⟩ | ⟨g, c, cur, e, _, _, k1, k2, _⟩
    · exact absurd (by rw [← hu.1]; exact e) h0
    · cases e
      rw [hu.1] at k1
      exact ⟨k1, k2⟩
  rw [hu.1] at h4 ⊢
  exact ⟨ta, cap, rfl, ⟨h4, h5⟩, h3⟩
set_option maxHeartbeats 2000000 in
theorem sways_walk (sa : Option Addr) (sn sc : Nat) (xs : List Nat) (way : Int) (w : World) (hu : U64At w sa sn xs) (hn : sn ≤ 17592186043904) (_ : -9223372036854775808 ≤ way ∧ way ≤ 9223372036854775807) (hT : Tab w) (hg : 3 < w.heap.size) (hT3 : Tab32 w) (hs : 2 < w.heap.size) :
    Calls Tryz.prog 3 #[.slice sa sn sc, .int .i64 way] w fun r w' => r = .returned (.bool true) ∧ Below w.heap.size w w' := by
  have HA : Hid (∀ W, Below w.heap.size w W → Calls Tryz.prog 22 #[] W fun r w' => r = .returned (.bool true) ∧ Below W.heap.size W w') := fun W hW => awake5_any W (hT.below hg hW) (Nat.lt_of_lt_of_le hg hW.size) (hT3.below hs hW) (Nat.lt_of_lt_of_le hs hW.size)
  have HO := hid (Of64_lstc sa sn sc xs w hu hn)
  have hx := hu.2.1
  have hlen : xs.length ≤ 17592186043904 := by rw [hu.1]; exact hn
  have HE1 : Hid (∀ W a c, Below w.heap.size w W → LstC W a sn c xs → Calls Tryz.prog 8 #[.slice a sn c] W fun r w' => r = .returned (.tuple #[.float .f64 (exV xs sn), .int .i64 (exE sn)]) ∧ Below W.heap.size W w') := fun W a c hW hl => rExact_any a sn c xs W hl.1 hx hn (hT3.below hs hW) (Nat.lt_of_lt_of_le hs hW.size)
  have HE2 : Hid (∀ W a c, Below w.heap.size w W → LstC W a sn c xs → Calls Tryz.prog 9 #[.slice a sn c] W fun r w' => r = .returned (.tuple #[.float .f64 (exV xs sn), .int .i64 (exE sn)]) ∧ Below W.heap.size W w') := fun W a c hW hl => Exact_any a sn c xs W hl.1 hx hn (hT.below hg hW) (Nat.lt_of_lt_of_le hg hW.size) (hT3.below hs hW) (Nat.lt_of_lt_of_le hs hW.size)
  have HS1 : Hid (∀ W a c, Below w.heap.size w W → LstC W a sn c xs → Calls Tryz.prog 10 #[.slice a sn c, .int .i64 way] W fun r w' => r = .returned (.tuple #[.float .f64 (wayV way xs sn), .int .i64 (wayR way sn)]) ∧ Below W.heap.size W w') := fun W a c hW hl => rSum_any way a sn c xs W hl hx hn (hT3.below hs hW) (Nat.lt_of_lt_of_le hs hW.size)
  have HS2 : Hid (∀ W a c, Below w.heap.size w W → LstC W a sn c xs → Calls Tryz.prog 11 #[.slice a sn c, .int .i64 way] W fun r w' => r = .returned (.tuple #[.float .f64 (wayV way xs sn), .int .i64 (wayR way sn)]) ∧ Below W.heap.size W w') := fun W a c hW hl => pSum_any way a sn c xs W hl hx hn (hT.below hg hW) (Nat.lt_of_lt_of_le hg hW.size) (hT3.below hs hW) (Nat.lt_of_lt_of_le hs hW.size)
  have HL1 : Hid (∀ W a c, Below w.heap.size w W → LstC W a sn c xs → Calls Tryz.prog 13 #[.slice a sn c] W fun r w' => r = .returned (.float .f64 (sumC xs)) ∧ Below W.heap.size W w') := fun W a c hW hl => Left_any a sn c xs hx hlen W hl.1.flt
  have HL2 : Hid (∀ W a c, Below w.heap.size w W → LstC W a sn c xs → Calls Tryz.prog 14 #[.slice a sn c] W fun r w' => r = .returned (.float .f64 (sumC xs)) ∧ Below W.heap.size W w') := fun W a c hW hl => rLeft_any a sn c xs hx hlen W hl.1.flt
  have HP1 : Hid (∀ W a c, Below w.heap.size w W → LstC W a sn c xs → Calls Tryz.prog 15 #[.slice a sn c] W fun r w' => r = .returned (.float .f64 (pairN sn xs)) ∧ Below W.heap.size W w') := fun W a c hW hl => Pairs_any a sn c xs W hl hx hn
  have HP2 : Hid (∀ W a c, Below w.heap.size w W → LstC W a sn c xs → Calls Tryz.prog 16 #[.slice a sn c] W fun r w' => r = .returned (.float .f64 (pairN sn xs)) ∧ Below W.heap.size W w') := fun W a c hW hl => rPairs_any a sn c xs W hl hx hn
  have HK1 : Hid (∀ W a c, Below w.heap.size w W → LstC W a sn c xs → Calls Tryz.prog 17 #[.slice a sn c] W fun r w' => r = .returned (.float .f64 (kahC xs)) ∧ Below W.heap.size W w') := fun W a c hW hl => Kah_any a sn c xs hx hlen W hl.1.flt
  have HK2 : Hid (∀ W a c, Below w.heap.size w W → LstC W a sn c xs → Calls Tryz.prog 18 #[.slice a sn c] W fun r w' => r = .returned (.float .f64 (kahC xs)) ∧ Below W.heap.size W w') := fun W a c hW hl => rKah_any a sn c xs hx hlen W hl.1.flt
  have HN1 : Hid (∀ W a c, Below w.heap.size w W → LstC W a sn c xs → Calls Tryz.prog 19 #[.slice a sn c] W fun r w' => r = .returned (.float .f64 (neuC xs)) ∧ Below W.heap.size W w') := fun W a c hW hl => Neum_any a sn c xs hx hlen W hl.1.flt
  have HN2 : Hid (∀ W a c, Below w.heap.size w W → LstC W a sn c xs → Calls Tryz.prog 20 #[.slice a sn c] W fun r w' => r = .returned (.float .f64 (neuC xs)) ∧ Below W.heap.size W w') := fun W a c hW hl => rNeum_any a sn c xs hx hlen W hl.1.flt
  have CL := hid (And.intro (sumC_lt xs) (sumC_can xs))
  have CP := hid (pairN_lt sn xs hx)
  have CK := hid (kahC_canon xs)
  have CN := hid (neuC_canon xs)
  have CE := hid (exV_canon xs sn)
  have CW := hid (wayV_canon way xs sn hx)
  obtain ⟨vL, hvL⟩ : ∃ V, Hid (sumC xs = V) := ⟨_, rfl⟩
  obtain ⟨vP, hvP⟩ : ∃ V, Hid (pairN sn xs = V) := ⟨_, rfl⟩
  obtain ⟨vK, hvK⟩ : ∃ V, Hid (kahC xs = V) := ⟨_, rfl⟩
  obtain ⟨vN, hvN⟩ : ∃ V, Hid (neuC xs = V) := ⟨_, rfl⟩
  obtain ⟨vE, hvE⟩ : ∃ V, Hid (exV xs sn = V) := ⟨_, rfl⟩
  obtain ⟨vW, hvW⟩ : ∃ V, Hid (wayV way xs sn = V) := ⟨_, rfl⟩
  obtain ⟨eE, heE⟩ : ∃ V, Hid (exE sn = V) := ⟨_, rfl⟩
  obtain ⟨eW, heW⟩ : ∃ V, Hid (wayR way sn = V) := ⟨_, rfl⟩
  rw [hvL.out] at HL1 HL2 CL
  rw [hvP.out] at HP1 HP2 CP
  rw [hvK.out] at HK1 HK2 CK
  rw [hvN.out] at HN1 HN2 CN
  rw [hvE.out] at HE1 HE2 CE
  rw [heE.out] at HE1 HE2
  rw [hvW.out] at HS1 HS2 CW
  rw [heW.out] at HS1 HS2
  have YL := hid (fun W => same_yes vL W CL.out.1 CL.out.2)
  have YP := hid (fun W => same_yes vP W CP.out.1 CP.out.2)
  have YK := hid (fun W => same_yes vK W CK.out.1 CK.out.2)
  have YN := hid (fun W => same_yes vN W CN.out.1 CN.out.2)
  have YE := hid (fun W => told_yes vE eE W CE.out.1 CE.out.2)
  have YW := hid (fun W => told_yes vW eW W CW.out.1 CW.out.2)
  clear hu hn hT hg hT3 hs hx hlen
  go_enter Tryz.func3, Tryz.ntmps3
  go_wp2_with fail
  refine HO.out.mono ?_
  rintro r w1 ⟨ua, c1, rfl, l1, hb1⟩
  have HB1 := hid hb1
  have HM1 := hid l1
  clear hb1 l1
  go_wp2_with fail
  refine (HE1.out _ _ _ HB1.out HM1.out).mono ?_
  rintro r w2 ⟨rfl, hb2⟩
  have HB2 := hid (HB1.out.trans (hb2.mono HB1.out.size))
  have HM2 := hid (HM1.out.below hb2)
  clear hb2 HM1
  go_wp2_with fail
  refine (HE2.out _ _ _ HB2.out HM2.out).mono ?_
  rintro r w3 ⟨rfl, hb3⟩
  have HB3 := hid (HB2.out.trans (hb3.mono HB2.out.size))
  have HM3 := hid (HM2.out.below hb3)
  clear hb3 HM2
  go_wp2_with fail
  refine (HS1.out _ _ _ HB3.out HM3.out).mono ?_
  rintro r w4 ⟨rfl, hb4⟩
  have HB4 := hid (HB3.out.trans (hb4.mono HB3.out.size))
  have HM4 := hid (HM3.out.below hb4)
  clear hb4 HM3
  go_wp2_with fail
  refine (HS2.out _ _ _ HB4.out HM4.out).mono ?_
  rintro r w5 ⟨rfl, hb5⟩
  have HB5 := hid (HB4.out.trans (hb5.mono HB4.out.size))
  have HM5 := hid (HM4.out.below hb5)
  clear hb5 HM4
  go_wp2_with fail
  refine (HL1.out _ _ _ HB5.out HM5.out).mono ?_
  rintro r w6 ⟨rfl, hb6⟩
  have HB6 := hid (HB5.out.trans (hb6.mono HB5.out.size))
  have HM6 := hid (HM5.out.below hb6)
  clear hb6 HM5
  go_wp2_with fail
  refine (HL2.out _ _ _ HB6.out HM6.out).mono ?_
  rintro r w7 ⟨rfl, hb7⟩
  have HB7 := hid (HB6.out.trans (hb7.mono HB6.out.size))
  have HM7 := hid (HM6.out.below hb7)
  clear hb7 HM6
  go_wp2_with fail
  refine (YL.out _).mono ?_
  rintro r w0 ⟨rfl, rfl⟩
  go_wp2_with fail
  refine (HP1.out _ _ _ HB7.out HM7.out).mono ?_
  rintro r w8 ⟨rfl, hb8⟩
  have HB8 := hid (HB7.out.trans (hb8.mono HB7.out.size))
  have HM8 := hid (HM7.out.below hb8)
  clear hb8 HM7
  go_wp2_with fail
  refine (HP2.out _ _ _ HB8.out HM8.out).mono ?_
  rintro r w9 ⟨rfl, hb9⟩
  have HB9 := hid (HB8.out.trans (hb9.mono HB8.out.size))
  have HM9 := hid (HM8.out.below hb9)
  clear hb9 HM8
  go_wp2_with fail
  refine (YP.out _).mono ?_
  rintro r w0 ⟨rfl, rfl⟩
  go_wp2_with fail
  refine (HK1.out _ _ _ HB9.out HM9.out).mono ?_
  rintro r w10 ⟨rfl, hb10⟩
  have HB10 := hid (HB9.out.trans (hb10.mono HB9.out.size))
  have HM10 := hid (HM9.out.below hb10)
  clear hb10 HM9
  go_wp2_with fail
  refine (HK2.out _ _ _ HB10.out HM10.out).mono ?_
  rintro r w11 ⟨rfl, hb11⟩
  have HB11 := hid (HB10.out.trans (hb11.mono HB10.out.size))
  have HM11 := hid (HM10.out.below hb11)
  clear hb11 HM10
  go_wp2_with fail
  refine (YK.out _).mono ?_
  rintro r w0 ⟨rfl, rfl⟩
  go_wp2_with fail
  refine (HN1.out _ _ _ HB11.out HM11.out).mono ?_
  rintro r w12 ⟨rfl, hb12⟩
  have HB12 := hid (HB11.out.trans (hb12.mono HB11.out.size))
  have HM12 := hid (HM11.out.below hb12)
  clear hb12 HM11
  go_wp2_with fail
  refine (HN2.out _ _ _ HB12.out HM12.out).mono ?_
  rintro r w13 ⟨rfl, hb13⟩
  have HB13 := hid (HB12.out.trans (hb13.mono HB12.out.size))
  have HM13 := hid (HM12.out.below hb13)
  clear hb13 HM12
  go_wp2_with fail
  refine (YN.out _).mono ?_
  rintro r w0 ⟨rfl, rfl⟩
  go_wp2_with fail
  refine (YE.out _).mono ?_
  rintro r w0 ⟨rfl, rfl⟩
  go_wp2_with fail
  refine (YW.out _).mono ?_
  rintro r w0 ⟨rfl, rfl⟩
  go_wp2_with fail
  refine (HA.out _ HB13.out).mono ?_
  rintro r w99 ⟨rfl, hb99⟩
  go_wp2_with fail
  go_ret
  exact ⟨rfl, HB13.out.trans (hb99.mono HB13.out.size)⟩
end Go.Proofs.YtehnkgonhgjeiaaGreatDoor
