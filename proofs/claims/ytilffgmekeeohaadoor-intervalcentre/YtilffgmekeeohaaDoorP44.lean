
/- interval's folded, within and rounded at the products of the chapter's first examples. (Written by mkivi.py.) -/
import Derived.Test.YtilffgmekeeohaaDoorP4
import Derived.Test.YtilffgmekeeohaaDoorP43
import Derived.Test.YtilffgmekeeohaaDoorP35
namespace Go.Proofs.YtilffgmekeeohaaDoor
open Go.RowKit Go.IntWalk

set_option maxHeartbeats 1000000 in
theorem lead_1 (w : World) : Calls Tryd.prog 82 #[.int .u64 1] w fun r w' => r = .returned (.int .i64 63) ∧ w' = w := by
  have H := hid (len_any 1 w (by decide))
  rw [show bitLen 1 = 1 by decide +kernel] at H
  go_enter Tryd.func82, Tryd.ntmps82
  go_wp2_with fail
  refine (H.out).mono ?_
  rintro r w1 ⟨rfl, rfl⟩
  go_wp2
  go_ret
  exact ⟨by first | rfl | simp, rfl⟩
set_option maxHeartbeats 1000000 in
theorem lead_3 (w : World) : Calls Tryd.prog 82 #[.int .u64 3] w fun r w' => r = .returned (.int .i64 62) ∧ w' = w := by
  have H := hid (len_any 3 w (by decide))
  rw [show bitLen 3 = 2 by decide +kernel] at H
  go_enter Tryd.func82, Tryd.ntmps82
  go_wp2_with fail
  refine (H.out).mono ?_
  rintro r w1 ⟨rfl, rfl⟩
  go_wp2
  go_ret
  exact ⟨by first | rfl | simp, rfl⟩
set_option maxHeartbeats 1000000 in
theorem folded_1_0 (b : Nat) (w : World) (h0 : w.cell? ⟨b, 0, none⟩ = some (.int .u64 1)) (h1 : w.cell? ⟨b, 1, none⟩ = some (.int .u64 0)) : Calls Tryd.prog 74 #[.slice (some ⟨b, 0, none⟩) 2 2, .int .i64 0] w fun r w' => r = .returned (.tuple #[.int .u64 9223372036854775808, .int .i64 (-63)]) ∧ w' = w := by
  have HL := hid (lead_1 w)
  go_enter Tryd.func74, Tryd.ntmps74
  go_wp2_with fail
  go_loopw [6] (fun i wr => (i = .int .i64 1 ∨ i = .int .i64 0) ∧ wr = w) (fun i _ => (intOf i).toNat)
  case atStart => exact ⟨Or.inl rfl, rfl⟩
  case round =>
    obtain ⟨hi, rfl⟩ := hrel
    rcases hi with rfl | rfl
    · go_wp2
      refine ⟨⟨Or.inr (by first | rfl | go_num), by first | rfl | trivial⟩, ?_⟩
      simp [intOf]
    · go_wp2_with fail
      refine HL.out.mono ?_
      rintro r w1 ⟨rfl, rfl⟩
      go_wp2
      go_ret2
      exact ⟨by first | rfl | simp, rfl⟩
set_option maxHeartbeats 1000000 in
theorem within_1_0 (w : World) (hT : Tab w) (hs : 1 < w.heap.size) : Calls Tryd.prog 73 #[.int .u64 9223372036854775808, .int .i64 (-63)] w fun r w' => r = .returned (.tuple #[.float .f64 4607182418800017408, .bool true]) ∧ Below w.heap.size w w' := by
  have HO := hid (fun (W : World) hT hs => Of_any false 4503599627370496 (-52) W (by decide) hT hs)
  rw [show wWord false 4503599627370496 (-52) = 4607182418800017408 by decide +kernel, show wErr 4503599627370496 (-52) = 0 by decide +kernel] at HO
  have HT := hid (And.intro hT hs)
  clear hT hs
  go_enter Tryd.func73, Tryd.ntmps73
  go_wp2_with fail
  refine (HO.out _ HT.out.1 HT.out.2).mono ?_
  rintro r w1 ⟨rfl, hb⟩
  have HB := hid hb
  clear hb
  go_wp2
  go_quiet (fail)
  go_wp2
  go_ret2
  exact ⟨by first | rfl | simp, bl_drewN _ HB.out⟩
set_option maxHeartbeats 1000000 in
theorem rounded_1_0_false (b : Nat) (to : Bool) (w : World) (h0 : w.cell? ⟨b, 0, none⟩ = some (.int .u64 1)) (h1 : w.cell? ⟨b, 1, none⟩ = some (.int .u64 0)) (hT : Tab w) (hs : 1 < w.heap.size) : Calls Tryd.prog 58 #[.bool false, .slice (some ⟨b, 0, none⟩) 2 2, .int .i64 0, .bool to] w fun r w' => r = .returned (.float .f64 4607182418800017408) ∧ Below w.heap.size w w' := by
  have HF := hid (folded_1_0 b w h0 h1)
  have HW := hid (within_1_0 w hT hs)
  clear hT hs h0 h1
  go_enter Tryd.func58, Tryd.ntmps58
  go_wp2_with fail
  refine HF.out.mono ?_
  rintro r w1 ⟨rfl, rfl⟩
  go_wp2_with fail
  refine HW.out.mono ?_
  rintro r w2 ⟨rfl, hb⟩
  have HB := hid hb
  clear hb
  go_wp2
  go_ret
  exact ⟨by first | rfl | simp, HB.out⟩
set_option maxHeartbeats 1000000 in
theorem rounded_1_0_true (b : Nat) (to : Bool) (w : World) (h0 : w.cell? ⟨b, 0, none⟩ = some (.int .u64 1)) (h1 : w.cell? ⟨b, 1, none⟩ = some (.int .u64 0)) (hT : Tab w) (hs : 1 < w.heap.size) : Calls Tryd.prog 58 #[.bool true, .slice (some ⟨b, 0, none⟩) 2 2, .int .i64 0, .bool to] w fun r w' => r = .returned (.float .f64 13830554455654793216) ∧ Below w.heap.size w w' := by
  have HF := hid (folded_1_0 b w h0 h1)
  have HW := hid (within_1_0 w hT hs)
  have hn : Op.unary .neg (.float .f64 4607182418800017408) = pure (.float .f64 13830554455654793216) := by rfl
  clear hT hs h0 h1
  go_enter Tryd.func58, Tryd.ntmps58
  go_wp2_with fail
  refine HF.out.mono ?_
  rintro r w1 ⟨rfl, rfl⟩
  go_wp2_with fail
  refine HW.out.mono ?_
  rintro r w2 ⟨rfl, hb⟩
  have HB := hid hb
  clear hb
  go_wp2
  go_ret
  exact ⟨by first | rfl | simp, HB.out⟩
set_option maxHeartbeats 1000000 in
theorem folded_1_2 (b : Nat) (w : World) (h0 : w.cell? ⟨b, 0, none⟩ = some (.int .u64 1)) (h1 : w.cell? ⟨b, 1, none⟩ = some (.int .u64 0)) : Calls Tryd.prog 74 #[.slice (some ⟨b, 0, none⟩) 2 2, .int .i64 2] w fun r w' => r = .returned (.tuple #[.int .u64 9223372036854775808, .int .i64 (-61)]) ∧ w' = w := by
  have HL := hid (lead_1 w)
  go_enter Tryd.func74, Tryd.ntmps74
  go_wp2_with fail
  go_loopw [6] (fun i wr => (i = .int .i64 1 ∨ i = .int .i64 0) ∧ wr = w) (fun i _ => (intOf i).toNat)
  case atStart => exact ⟨Or.inl rfl, rfl⟩
  case round =>
    obtain ⟨hi, rfl⟩ := hrel
    rcases hi with rfl | rfl
    · go_wp2
      refine ⟨⟨Or.inr (by first | rfl | go_num), by first | rfl | trivial⟩, ?_⟩
      simp [intOf]
    · go_wp2_with fail
      refine HL.out.mono ?_
      rintro r w1 ⟨rfl, rfl⟩
      go_wp2
      go_ret2
      exact ⟨by first | rfl | simp, rfl⟩
set_option maxHeartbeats 1000000 in
theorem within_1_2 (w : World) (hT : Tab w) (hs : 1 < w.heap.size) : Calls Tryd.prog 73 #[.int .u64 9223372036854775808, .int .i64 (-61)] w fun r w' => r = .returned (.tuple #[.float .f64 4616189618054758400, .bool true]) ∧ Below w.heap.size w w' := by
  have HO := hid (fun (W : World) hT hs => Of_any false 4503599627370496 (-50) W (by decide) hT hs)
  rw [show wWord false 4503599627370496 (-50) = 4616189618054758400 by decide +kernel, show wErr 4503599627370496 (-50) = 0 by decide +kernel] at HO
  have HT := hid (And.intro hT hs)
  clear hT hs
  go_enter Tryd.func73, Tryd.ntmps73
  go_wp2_with fail
  refine (HO.out _ HT.out.1 HT.out.2).mono ?_
  rintro r w1 ⟨rfl, hb⟩
  have HB := hid hb
  clear hb
  go_wp2
  go_quiet (fail)
  go_wp2
  go_ret2
  exact ⟨by first | rfl | simp, bl_drewN _ HB.out⟩
set_option maxHeartbeats 1000000 in
theorem rounded_1_2_false (b : Nat) (to : Bool) (w : World) (h0 : w.cell? ⟨b, 0, none⟩ = some (.int .u64 1)) (h1 : w.cell? ⟨b, 1, none⟩ = some (.int .u64 0)) (hT : Tab w) (hs : 1 < w.heap.size) : Calls Tryd.prog 58 #[.bool false, .slice (some ⟨b, 0, none⟩) 2 2, .int .i64 2, .bool to] w fun r w' => r = .returned (.float .f64 4616189618054758400) ∧ Below w.heap.size w w' := by
  have HF := hid (folded_1_2 b w h0 h1)
  have HW := hid (within_1_2 w hT hs)
  clear hT hs h0 h1
  go_enter Tryd.func58, Tryd.ntmps58
  go_wp2_with fail
  refine HF.out.mono ?_
  rintro r w1 ⟨rfl, rfl⟩
  go_wp2_with fail
  refine HW.out.mono ?_
  rintro r w2 ⟨rfl, hb⟩
  have HB := hid hb
  clear hb
  go_wp2
  go_ret
  exact ⟨by first | rfl | simp, HB.out⟩
set_option maxHeartbeats 1000000 in
theorem rounded_1_2_true (b : Nat) (to : Bool) (w : World) (h0 : w.cell? ⟨b, 0, none⟩ = some (.int .u64 1)) (h1 : w.cell? ⟨b, 1, none⟩ = some (.int .u64 0)) (hT : Tab w) (hs : 1 < w.heap.size) : Calls Tryd.prog 58 #[.bool true, .slice (some ⟨b, 0, none⟩) 2 2, .int .i64 2, .bool to] w fun r w' => r = .returned (.float .f64 13839561654909534208) ∧ Below w.heap.size w w' := by
  have HF := hid (folded_1_2 b w h0 h1)
  have HW := hid (within_1_2 w hT hs)
  have hn : Op.unary .neg (.float .f64 4616189618054758400) = pure (.float .f64 13839561654909534208) := by rfl
  clear hT hs h0 h1
  go_enter Tryd.func58, Tryd.ntmps58
  go_wp2_with fail
  refine HF.out.mono ?_
  rintro r w1 ⟨rfl, rfl⟩
  go_wp2_with fail
  refine HW.out.mono ?_
  rintro r w2 ⟨rfl, hb⟩
  have HB := hid hb
  clear hb
  go_wp2
  go_ret
  exact ⟨by first | rfl | simp, HB.out⟩
set_option maxHeartbeats 1000000 in
theorem folded_1_3 (b : Nat) (w : World) (h0 : w.cell? ⟨b, 0, none⟩ = some (.int .u64 1)) (h1 : w.cell? ⟨b, 1, none⟩ = some (.int .u64 0)) : Calls Tryd.prog 74 #[.slice (some ⟨b, 0, none⟩) 2 2, .int .i64 3] w fun r w' => r = .returned (.tuple #[.int .u64 9223372036854775808, .int .i64 (-60)]) ∧ w' = w := by
  have HL := hid (lead_1 w)
  go_enter Tryd.func74, Tryd.ntmps74
  go_wp2_with fail
  go_loopw [6] (fun i wr => (i = .int .i64 1 ∨ i = .int .i64 0) ∧ wr = w) (fun i _ => (intOf i).toNat)
  case atStart => exact ⟨Or.inl rfl, rfl⟩
  case round =>
    obtain ⟨hi, rfl⟩ := hrel
    rcases hi with rfl | rfl
    · go_wp2
      refine ⟨⟨Or.inr (by first | rfl | go_num), by first | rfl | trivial⟩, ?_⟩
      simp [intOf]
    · go_wp2_with fail
      refine HL.out.mono ?_
      rintro r w1 ⟨rfl, rfl⟩
      go_wp2
      go_ret2
      exact ⟨by first | rfl | simp, rfl⟩
set_option maxHeartbeats 1000000 in
theorem within_1_3 (w : World) (hT : Tab w) (hs : 1 < w.heap.size) : Calls Tryd.prog 73 #[.int .u64 9223372036854775808, .int .i64 (-60)] w fun r w' => r = .returned (.tuple #[.float .f64 4620693217682128896, .bool true]) ∧ Below w.heap.size w w' := by
  have HO := hid (fun (W : World) hT hs => Of_any false 4503599627370496 (-49) W (by decide) hT hs)
  rw [show wWord false 4503599627370496 (-49) = 4620693217682128896 by decide +kernel, show wErr 4503599627370496 (-49) = 0 by decide +kernel] at HO
  have HT := hid (And.intro hT hs)
  clear hT hs
  go_enter Tryd.func73, Tryd.ntmps73
  go_wp2_with fail
  refine (HO.out _ HT.out.1 HT.out.2).mono ?_
  rintro r w1 ⟨rfl, hb⟩
  have HB := hid hb
  clear hb
  go_wp2
  go_quiet (fail)
  go_wp2
  go_ret2
  exact ⟨by first | rfl | simp, bl_drewN _ HB.out⟩
set_option maxHeartbeats 1000000 in
theorem rounded_1_3_false (b : Nat) (to : Bool) (w : World) (h0 : w.cell? ⟨b, 0, none⟩ = some (.int .u64 1)) (h1 : w.cell? ⟨b, 1, none⟩ = some (.int .u64 0)) (hT : Tab w) (hs : 1 < w.heap.size) : Calls Tryd.prog 58 #[.bool false, .slice (some ⟨b, 0, none⟩) 2 2, .int .i64 3, .bool to] w fun r w' => r = .returned (.float .f64 4620693217682128896) ∧ Below w.heap.size w w' := by
  have HF := hid (folded_1_3 b w h0 h1)
  have HW := hid (within_1_3 w hT hs)
  clear hT hs h0 h1
  go_enter Tryd.func58, Tryd.ntmps58
  go_wp2_with fail
  refine HF.out.mono ?_
  rintro r w1 ⟨rfl, rfl⟩
  go_wp2_with fail
  refine HW.out.mono ?_
  rintro r w2 ⟨rfl, hb⟩
  have HB := hid hb
  clear hb
  go_wp2
  go_ret
  exact ⟨by first | rfl | simp, HB.out⟩
set_option maxHeartbeats 1000000 in
theorem rounded_1_3_true (b : Nat) (to : Bool) (w : World) (h0 : w.cell? ⟨b, 0, none⟩ = some (.int .u64 1)) (h1 : w.cell? ⟨b, 1, none⟩ = some (.int .u64 0)) (hT : Tab w) (hs : 1 < w.heap.size) : Calls Tryd.prog 58 #[.bool true, .slice (some ⟨b, 0, none⟩) 2 2, .int .i64 3, .bool to] w fun r w' => r = .returned (.float .f64 13844065254536904704) ∧ Below w.heap.size w w' := by
  have HF := hid (folded_1_3 b w h0 h1)
  have HW := hid (within_1_3 w hT hs)
  have hn : Op.unary .neg (.float .f64 4620693217682128896) = pure (.float .f64 13844065254536904704) := by rfl
  clear hT hs h0 h1
  go_enter Tryd.func58, Tryd.ntmps58
  go_wp2_with fail
  refine HF.out.mono ?_
  rintro r w1 ⟨rfl, rfl⟩
  go_wp2_with fail
  refine HW.out.mono ?_
  rintro r w2 ⟨rfl, hb⟩
  have HB := hid hb
  clear hb
  go_wp2
  go_ret
  exact ⟨by first | rfl | simp, HB.out⟩
set_option maxHeartbeats 1000000 in
theorem folded_3_0 (b : Nat) (w : World) (h0 : w.cell? ⟨b, 0, none⟩ = some (.int .u64 3)) (h1 : w.cell? ⟨b, 1, none⟩ = some (.int .u64 0)) : Calls Tryd.prog 74 #[.slice (some ⟨b, 0, none⟩) 2 2, .int .i64 0] w fun r w' => r = .returned (.tuple #[.int .u64 13835058055282163712, .int .i64 (-62)]) ∧ w' = w := by
  have HL := hid (lead_3 w)
  go_enter Tryd.func74, Tryd.ntmps74
  go_wp2_with fail
  go_loopw [6] (fun i wr => (i = .int .i64 1 ∨ i = .int .i64 0) ∧ wr = w) (fun i _ => (intOf i).toNat)
  case atStart => exact ⟨Or.inl rfl, rfl⟩
  case round =>
    obtain ⟨hi, rfl⟩ := hrel
    rcases hi with rfl | rfl
    · go_wp2
      refine ⟨⟨Or.inr (by first | rfl | go_num), by first | rfl | trivial⟩, ?_⟩
      simp [intOf]
    · go_wp2_with fail
      refine HL.out.mono ?_
      rintro r w1 ⟨rfl, rfl⟩
      go_wp2
      go_ret2
      exact ⟨by first | rfl | simp, rfl⟩
set_option maxHeartbeats 1000000 in
theorem within_3_0 (w : World) (hT : Tab w) (hs : 1 < w.heap.size) : Calls Tryd.prog 73 #[.int .u64 13835058055282163712, .int .i64 (-62)] w fun r w' => r = .returned (.tuple #[.float .f64 4613937818241073152, .bool true]) ∧ Below w.heap.size w w' := by
  have HO := hid (fun (W : World) hT hs => Of_any false 6755399441055744 (-51) W (by decide) hT hs)
  rw [show wWord false 6755399441055744 (-51) = 4613937818241073152 by decide +kernel, show wErr 6755399441055744 (-51) = 0 by decide +kernel] at HO
  have HT := hid (And.intro hT hs)
  clear hT hs
  go_enter Tryd.func73, Tryd.ntmps73
  go_wp2_with fail
  refine (HO.out _ HT.out.1 HT.out.2).mono ?_
  rintro r w1 ⟨rfl, hb⟩
  have HB := hid hb
  clear hb
  go_wp2
  go_quiet (fail)
  go_wp2
  go_ret2
  exact ⟨by first | rfl | simp, bl_drewN _ HB.out⟩
set_option maxHeartbeats 1000000 in
theorem rounded_3_0_false (b : Nat) (to : Bool) (w : World) (h0 : w.cell? ⟨b, 0, none⟩ = some (.int .u64 3)) (h1 : w.cell? ⟨b, 1, none⟩ = some (.int .u64 0)) (hT : Tab w) (hs : 1 < w.heap.size) : Calls Tryd.prog 58 #[.bool false, .slice (some ⟨b, 0, none⟩) 2 2, .int .i64 0, .bool to] w fun r w' => r = .returned (.float .f64 4613937818241073152) ∧ Below w.heap.size w w' := by
  have HF := hid (folded_3_0 b w h0 h1)
  have HW := hid (within_3_0 w hT hs)
  clear hT hs h0 h1
  go_enter Tryd.func58, Tryd.ntmps58
  go_wp2_with fail
  refine HF.out.mono ?_
  rintro r w1 ⟨rfl, rfl⟩
  go_wp2_with fail
  refine HW.out.mono ?_
  rintro r w2 ⟨rfl, hb⟩
  have HB := hid hb
  clear hb
  go_wp2
  go_ret
  exact ⟨by first | rfl | simp, HB.out⟩
set_option maxHeartbeats 1000000 in
theorem rounded_3_0_true (b : Nat) (to : Bool) (w : World) (h0 : w.cell? ⟨b, 0, none⟩ = some (.int .u64 3)) (h1 : w.cell? ⟨b, 1, none⟩ = some (.int .u64 0)) (hT : Tab w) (hs : 1 < w.heap.size) : Calls Tryd.prog 58 #[.bool true, .slice (some ⟨b, 0, none⟩) 2 2, .int .i64 0, .bool to] w fun r w' => r = .returned (.float .f64 13837309855095848960) ∧ Below w.heap.size w w' := by
  have HF := hid (folded_3_0 b w h0 h1)
  have HW := hid (within_3_0 w hT hs)
  have hn : Op.unary .neg (.float .f64 4613937818241073152) = pure (.float .f64 13837309855095848960) := by rfl
  clear hT hs h0 h1
  go_enter Tryd.func58, Tryd.ntmps58
  go_wp2_with fail
  refine HF.out.mono ?_
  rintro r w1 ⟨rfl, rfl⟩
  go_wp2_with fail
  refine HW.out.mono ?_
  rintro r w2 ⟨rfl, hb⟩
  have HB := hid hb
  clear hb
  go_wp2
  go_ret
  exact ⟨by first | rfl | simp, HB.out⟩
set_option maxHeartbeats 1000000 in
theorem folded_3_1 (b : Nat) (w : World) (h0 : w.cell? ⟨b, 0, none⟩ = some (.int .u64 3)) (h1 : w.cell? ⟨b, 1, none⟩ = some (.int .u64 0)) : Calls Tryd.prog 74 #[.slice (some ⟨b, 0, none⟩) 2 2, .int .i64 1] w fun r w' => r = .returned (.tuple #[.int .u64 13835058055282163712, .int .i64 (-61)]) ∧ w' = w := by
  have HL := hid (lead_3 w)
  go_enter Tryd.func74, Tryd.ntmps74
  go_wp2_with fail
  go_loopw [6] (fun i wr => (i = .int .i64 1 ∨ i = .int .i64 0) ∧ wr = w) (fun i _ => (intOf i).toNat)
  case atStart => exact ⟨Or.inl rfl, rfl⟩
  case round =>
    obtain ⟨hi, rfl⟩ := hrel
    rcases hi with rfl | rfl
    · go_wp2
      refine ⟨⟨Or.inr (by first | rfl | go_num), by first | rfl | trivial⟩, ?_⟩
      simp [intOf]
    · go_wp2_with fail
      refine HL.out.mono ?_
      rintro r w1 ⟨rfl, rfl⟩
      go_wp2
      go_ret2
      exact ⟨by first | rfl | simp, rfl⟩
set_option maxHeartbeats 1000000 in
theorem within_3_1 (w : World) (hT : Tab w) (hs : 1 < w.heap.size) : Calls Tryd.prog 73 #[.int .u64 13835058055282163712, .int .i64 (-61)] w fun r w' => r = .returned (.tuple #[.float .f64 4618441417868443648, .bool true]) ∧ Below w.heap.size w w' := by
  have HO := hid (fun (W : World) hT hs => Of_any false 6755399441055744 (-50) W (by decide) hT hs)
  rw [show wWord false 6755399441055744 (-50) = 4618441417868443648 by decide +kernel, show wErr 6755399441055744 (-50) = 0 by decide +kernel] at HO
  have HT := hid (And.intro hT hs)
  clear hT hs
  go_enter Tryd.func73, Tryd.ntmps73
  go_wp2_with fail
  refine (HO.out _ HT.out.1 HT.out.2).mono ?_
  rintro r w1 ⟨rfl, hb⟩
  have HB := hid hb
  clear hb
  go_wp2
  go_quiet (fail)
  go_wp2
  go_ret2
  exact ⟨by first | rfl | simp, bl_drewN _ HB.out⟩
set_option maxHeartbeats 1000000 in
theorem rounded_3_1_false (b : Nat) (to : Bool) (w : World) (h0 : w.cell? ⟨b, 0, none⟩ = some (.int .u64 3)) (h1 : w.cell? ⟨b, 1, none⟩ = some (.int .u64 0)) (hT : Tab w) (hs : 1 < w.heap.size) : Calls Tryd.prog 58 #[.bool false, .slice (some ⟨b, 0, none⟩) 2 2, .int .i64 1, .bool to] w fun r w' => r = .returned (.float .f64 4618441417868443648) ∧ Below w.heap.size w w' := by
  have HF := hid (folded_3_1 b w h0 h1)
  have HW := hid (within_3_1 w hT hs)
  clear hT hs h0 h1
  go_enter Tryd.func58, Tryd.ntmps58
  go_wp2_with fail
  refine HF.out.mono ?_
  rintro r w1 ⟨rfl, rfl⟩
  go_wp2_with fail
  refine HW.out.mono ?_
  rintro r w2 ⟨rfl, hb⟩
  have HB := hid hb
  clear hb
  go_wp2
  go_ret
  exact ⟨by first | rfl | simp, HB.out⟩
set_option maxHeartbeats 1000000 in
theorem rounded_3_1_true (b : Nat) (to : Bool) (w : World) (h0 : w.cell? ⟨b, 0, none⟩ = some (.int .u64 3)) (h1 : w.cell? ⟨b, 1, none⟩ = some (.int .u64 0)) (hT : Tab w) (hs : 1 < w.heap.size) : Calls Tryd.prog 58 #[.bool true, .slice (some ⟨b, 0, none⟩) 2 2, .int .i64 1, .bool to] w fun r w' => r = .returned (.float .f64 13841813454723219456) ∧ Below w.heap.size w w' := by
  have HF := hid (folded_3_1 b w h0 h1)
  have HW := hid (within_3_1 w hT hs)
  have hn : Op.unary .neg (.float .f64 4618441417868443648) = pure (.float .f64 13841813454723219456) := by rfl
  clear hT hs h0 h1
  go_enter Tryd.func58, Tryd.ntmps58
  go_wp2_with fail
  refine HF.out.mono ?_
  rintro r w1 ⟨rfl, rfl⟩
  go_wp2_with fail
  refine HW.out.mono ?_
  rintro r w2 ⟨rfl, hb⟩
  have HB := hid hb
  clear hb
  go_wp2
  go_ret
  exact ⟨by first | rfl | simp, HB.out⟩
end Go.Proofs.YtilffgmekeeohaaDoor
