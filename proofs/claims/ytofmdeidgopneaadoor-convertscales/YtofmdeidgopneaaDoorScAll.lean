
/- Proved: for all bits x of a number, every power k and every mode the law ConvertScales answers true: Scale gives the number, the flags and the error that the document's own reckoning in whole numbers gives (ErrMode of what is no mode). Its condition: the library's table of trailing zeros starts as the program's text lays it, to which the card ties it. -/
import Derived.Test.YtofmdeidgopneaaDoorR2Take
import Derived.Test.YtofmdeidgopneaaDoorT64
import Derived.Test.YtofmdeidgopneaaDoorT32
import Derived.Test.YtofmdeidgopneaaDoorCvTop
import Derived.Test.YtofmdeidgopneaaDoorCvInt
import Derived.Test.YtofmdeidgopneaaDoorZeros
import Derived.ProofKit
import Derived.LaidMore
import Derived.OpenShut
import Derived.Stop.Joined
import Derived.Lib.LaidTab
import Derived.Test.YtofmdeidgopneaaDoorTie
import Derived.Test.YtofmdeidgopneaaDoorCards
import Derived.SevenTiedAt
namespace Go.Proofs.YtofmdeidgopneaaDoor
open Go.RowKit Go.IntWalk

theorem scells64 {w W : World} {T T2 : TypeId} {a b c d e f g h : Value} (hb : Below (w.heap.size + 2) ((w.alloc (.cells #[a, b, c, d] T)).alloc (.cells #[e, f, g, h] T2)) W) : (W.cell? ⟨w.heap.size, 0, none⟩ = some a ∧ W.cell? ⟨w.heap.size, 1, none⟩ = some b ∧ W.cell? ⟨w.heap.size, 2, none⟩ = some c ∧ W.cell? ⟨w.heap.size, 3, none⟩ = some d) ∧ (W.cell? ⟨w.heap.size + 1, 0, none⟩ = some e ∧ W.cell? ⟨w.heap.size + 1, 1, none⟩ = some f ∧ W.cell? ⟨w.heap.size + 1, 2, none⟩ = some g ∧ W.cell? ⟨w.heap.size + 1, 3, none⟩ = some h) := by
  refine ⟨⟨?_, ?_, ?_, ?_⟩, ⟨?_, ?_, ?_, ?_⟩⟩
  all_goals first
    | (rw [hb.cell (p := ⟨w.heap.size, _, none⟩) (by show w.heap.size < _; omega)]; simp [go_sem])
    | (rw [hb.cell (p := ⟨w.heap.size + 1, _, none⟩) (by show w.heap.size + 1 < _; omega)]; simp [go_sem])
theorem al2 {w W : World} {o1 o2 : Obj} (h : Below (w.heap.size + 2) ((w.alloc o1).alloc o2) W) : Below w.heap.size w W := (al_below w o1).trans (((al_below (w.alloc o1) o2).mono (by simp)).trans (h.mono (by omega)))
set_option maxHeartbeats 1000000 in
theorem same64_nan (neg : Bool) (z : Option Addr) (e mode : Int) (w : World) :
    Calls Tryd.prog 72 #[.agg #[.int .i64 53, .int .i64 (-1022), .int .i64 1023, .int .i64 11], .agg #[.int .i64 2, .bool neg, .pointer z, .int .i64 e], .int .i64 mode] w fun r w' => r = .returned (.tuple #[.int .u64 9221120237041090561, .int .i64 0]) ∧ Below w.heap.size w w' := by
  go_enter Tryd.func72, Tryd.ntmps72
  go_wp2_with fail
  refine (None64_any _).mono ?_
  rintro r w1 ⟨rfl, hb⟩
  go_wp2
  go_ret2
  exact ⟨rfl, bl_then (bl_al (bl_al (Below.refl _ _) _) _) hb⟩
set_option maxHeartbeats 1000000 in
theorem same64_inf (neg : Bool) (z : Option Addr) (e mode : Int) (w : World) :
    Calls Tryd.prog 72 #[.agg #[.int .i64 53, .int .i64 (-1022), .int .i64 1023, .int .i64 11], .agg #[.int .i64 1, .bool neg, .pointer z, .int .i64 e], .int .i64 mode] w fun r w' => r = .returned (.tuple #[.int .u64 (signN neg 9218868437227405312), .int .i64 0]) ∧ Below w.heap.size w w' := by
  go_enter Tryd.func72, Tryd.ntmps72
  go_wp2_with fail
  refine (Infinity64_any neg _).mono ?_
  rintro r w1 ⟨rfl, hb⟩
  go_wp2
  go_ret2
  exact ⟨rfl, bl_then (bl_al (bl_al (Below.refl _ _) _) _) hb⟩
set_option maxHeartbeats 1000000 in
theorem same64_fin (neg : Bool) (z m bd : Nat) (e mode : Int) (w : World) (hz : NumAt w z m bd) (hb : bd ≤ 30000) (he1 : -100000 ≤ e) (he2 : e ≤ 100000) :
    Calls Tryd.prog 72 #[.agg #[.int .i64 53, .int .i64 (-1022), .int .i64 1023, .int .i64 11], .agg #[.int .i64 0, .bool neg, .pointer (some ⟨z, 0, none⟩), .int .i64 e], .int .i64 mode] w fun r w' => r = .returned (.tuple #[.int .u64 (if m = 0 then signN neg 0 else signN neg (docR64 m e mode neg)), .int .i64 (if m = 0 then 0 else rFlag 53 (-1022) 1023 m e mode neg)]) ∧ Below w.heap.size w w' := by
  have HZ := hid hz
  have HI : Hid (∀ W, NumAt W z m bd → Calls Tryd.prog 107 #[.agg #[.int .i64 0, .bool neg, .pointer (some ⟨z, 0, none⟩), .int .i64 e]] W fun r w' => r = .returned (.bool (decide (m = 0))) ∧ Below W.heap.size W w') := fun W h => IsZero_any 0 neg z m bd e W h
  have HF : Hid (Below (w.heap.size + 2) ((w.alloc (.cells #[.int .i64 53, .int .i64 (-1022), .int .i64 1023, .int .i64 11] 107)).alloc (.cells #[.int .i64 0, .bool neg, .pointer (some ⟨z, 0, none⟩), .int .i64 e] 69)) ((w.alloc (.cells #[.int .i64 53, .int .i64 (-1022), .int .i64 1023, .int .i64 11] 107)).alloc (.cells #[.int .i64 0, .bool neg, .pointer (some ⟨z, 0, none⟩), .int .i64 e] 69))) := Below.refl _ _
  by_cases h0 : m = 0
  · rw [if_pos h0, if_pos h0]
    rw [decide_eq_true h0] at HI
    clear h0 hz hb he1 he2
    go_enter Tryd.func72, Tryd.ntmps72
    go_wp2_with fail
    refine (HI.out _ ((HZ.out.al _).al _)).mono ?_
    rintro r w1 ⟨rfl, hb⟩
    have HF1 := hid (fC HF.out hb (by simp))
    obtain ⟨⟨c0, c1, c2, c3⟩, ⟨d0, d1, d2, d3⟩⟩ := scells64 HF1.out
    clear hb
    go_wp2_with fail
    refine (Nought64_any neg _).mono ?_
    rintro r w2 ⟨rfl, hb2⟩
    go_wp2
    go_ret2
    exact ⟨rfl, bl_then (al2 HF1.out) hb2⟩
  · rw [if_neg h0, if_neg h0]
    rw [decide_eq_false h0] at HI
    have HR : Hid (∀ W, NumAt W z m bd → Calls Tryd.prog 109 #[.agg #[.int .i64 53, .int .i64 (-1022), .int .i64 1023, .int .i64 11], .bool neg, .pointer (some ⟨z, 0, none⟩), .int .i64 e, .bool false, .int .i64 mode] W fun r w' => r = .returned (.tuple #[.int .u64 (signN neg (docR64 m e mode neg)), .int .i64 (rFlag 53 (-1022) 1023 m e mode neg)]) ∧ Below W.heap.size W w') := fun W h => Round64_any neg z m bd e mode W h h0 hb he1 he2
    obtain ⟨V, hV⟩ : ∃ V, Hid (signN neg (docR64 m e mode neg) = V) := ⟨_, rfl⟩
    obtain ⟨G, hG⟩ : ∃ G, Hid (rFlag 53 (-1022) 1023 m e mode neg = G) := ⟨_, rfl⟩
    rw [hV.out, hG.out] at HR ⊢
    clear h0 hz hb he1 he2
    go_enter Tryd.func72, Tryd.ntmps72
    go_wp2_with fail
    refine (HI.out _ ((HZ.out.al _).al _)).mono ?_
    rintro r w1 ⟨rfl, hb⟩
    have HF1 := hid (fC HF.out hb (by simp))
    have HZ1 := hid (((HZ.out.al _).al _).below hb)
    obtain ⟨⟨c0, c1, c2, c3⟩, ⟨d0, d1, d2, d3⟩⟩ := scells64 HF1.out
    clear hb
    go_wp2_with fail
    refine (HR.out _ HZ1.out).mono ?_
    rintro r w2 ⟨rfl, hb2⟩
    go_wp2
    go_ret2
    exact ⟨rfl, bl_then (al2 HF1.out) hb2⟩
end Go.Proofs.YtofmdeidgopneaaDoor

namespace Go.Proofs.YtofmdeidgopneaaDoor
open Go.RowKit Go.IntWalk

theorem scells32 {w W : World} {T T2 : TypeId} {a b c d e f g h : Value} (hb : Below (w.heap.size + 2) ((w.alloc (.cells #[a, b, c, d] T)).alloc (.cells #[e, f, g, h] T2)) W) : (W.cell? ⟨w.heap.size, 0, none⟩ = some a ∧ W.cell? ⟨w.heap.size, 1, none⟩ = some b ∧ W.cell? ⟨w.heap.size, 2, none⟩ = some c ∧ W.cell? ⟨w.heap.size, 3, none⟩ = some d) ∧ (W.cell? ⟨w.heap.size + 1, 0, none⟩ = some e ∧ W.cell? ⟨w.heap.size + 1, 1, none⟩ = some f ∧ W.cell? ⟨w.heap.size + 1, 2, none⟩ = some g ∧ W.cell? ⟨w.heap.size + 1, 3, none⟩ = some h) := by
  refine ⟨⟨?_, ?_, ?_, ?_⟩, ⟨?_, ?_, ?_, ?_⟩⟩
  all_goals first
    | (rw [hb.cell (p := ⟨w.heap.size, _, none⟩) (by show w.heap.size < _; omega)]; simp [go_sem])
    | (rw [hb.cell (p := ⟨w.heap.size + 1, _, none⟩) (by show w.heap.size + 1 < _; omega)]; simp [go_sem])
set_option maxHeartbeats 1000000 in
theorem same32_nan (neg : Bool) (z : Option Addr) (e mode : Int) (w : World) :
    Calls Tryd.prog 72 #[.agg #[.int .i64 24, .int .i64 (-126), .int .i64 127, .int .i64 8], .agg #[.int .i64 2, .bool neg, .pointer z, .int .i64 e], .int .i64 mode] w fun r w' => r = .returned (.tuple #[.int .u64 2143289344, .int .i64 0]) ∧ Below w.heap.size w w' := by
  go_enter Tryd.func72, Tryd.ntmps72
  go_wp2_with fail
  refine (None32_any _).mono ?_
  rintro r w1 ⟨rfl, hb⟩
  go_wp2
  go_ret2
  exact ⟨rfl, bl_then (bl_al (bl_al (Below.refl _ _) _) _) hb⟩
set_option maxHeartbeats 1000000 in
theorem same32_inf (neg : Bool) (z : Option Addr) (e mode : Int) (w : World) :
    Calls Tryd.prog 72 #[.agg #[.int .i64 24, .int .i64 (-126), .int .i64 127, .int .i64 8], .agg #[.int .i64 1, .bool neg, .pointer z, .int .i64 e], .int .i64 mode] w fun r w' => r = .returned (.tuple #[.int .u64 (signN32 neg 2139095040), .int .i64 0]) ∧ Below w.heap.size w w' := by
  go_enter Tryd.func72, Tryd.ntmps72
  go_wp2_with fail
  refine (Infinity32_any neg _).mono ?_
  rintro r w1 ⟨rfl, hb⟩
  go_wp2
  go_ret2
  exact ⟨rfl, bl_then (bl_al (bl_al (Below.refl _ _) _) _) hb⟩
set_option maxHeartbeats 1000000 in
theorem same32_fin (neg : Bool) (z m bd : Nat) (e mode : Int) (w : World) (hz : NumAt w z m bd) (hb : bd ≤ 30000) (he1 : -100000 ≤ e) (he2 : e ≤ 100000) :
    Calls Tryd.prog 72 #[.agg #[.int .i64 24, .int .i64 (-126), .int .i64 127, .int .i64 8], .agg #[.int .i64 0, .bool neg, .pointer (some ⟨z, 0, none⟩), .int .i64 e], .int .i64 mode] w fun r w' => r = .returned (.tuple #[.int .u64 (if m = 0 then signN32 neg 0 else signN32 neg (docR32 m e mode neg)), .int .i64 (if m = 0 then 0 else rFlag 24 (-126) 127 m e mode neg)]) ∧ Below w.heap.size w w' := by
  have HZ := hid hz
  have HI : Hid (∀ W, NumAt W z m bd → Calls Tryd.prog 107 #[.agg #[.int .i64 0, .bool neg, .pointer (some ⟨z, 0, none⟩), .int .i64 e]] W fun r w' => r = .returned (.bool (decide (m = 0))) ∧ Below W.heap.size W w') := fun W h => IsZero_any 0 neg z m bd e W h
  have HF : Hid (Below (w.heap.size + 2) ((w.alloc (.cells #[.int .i64 24, .int .i64 (-126), .int .i64 127, .int .i64 8] 107)).alloc (.cells #[.int .i64 0, .bool neg, .pointer (some ⟨z, 0, none⟩), .int .i64 e] 69)) ((w.alloc (.cells #[.int .i64 24, .int .i64 (-126), .int .i64 127, .int .i64 8] 107)).alloc (.cells #[.int .i64 0, .bool neg, .pointer (some ⟨z, 0, none⟩), .int .i64 e] 69))) := Below.refl _ _
  by_cases h0 : m = 0
  · rw [if_pos h0, if_pos h0]
    rw [decide_eq_true h0] at HI
    clear h0 hz hb he1 he2
    go_enter Tryd.func72, Tryd.ntmps72
    go_wp2_with fail
    refine (HI.out _ ((HZ.out.al _).al _)).mono ?_
    rintro r w1 ⟨rfl, hb⟩
    have HF1 := hid (fC HF.out hb (by simp))
    obtain ⟨⟨c0, c1, c2, c3⟩, ⟨d0, d1, d2, d3⟩⟩ := scells32 HF1.out
    clear hb
    go_wp2_with fail
    refine (Nought32_any neg _).mono ?_
    rintro r w2 ⟨rfl, hb2⟩
    go_wp2
    go_ret2
    exact ⟨rfl, bl_then (al2 HF1.out) hb2⟩
  · rw [if_neg h0, if_neg h0]
    rw [decide_eq_false h0] at HI
    have HR : Hid (∀ W, NumAt W z m bd → Calls Tryd.prog 109 #[.agg #[.int .i64 24, .int .i64 (-126), .int .i64 127, .int .i64 8], .bool neg, .pointer (some ⟨z, 0, none⟩), .int .i64 e, .bool false, .int .i64 mode] W fun r w' => r = .returned (.tuple #[.int .u64 (signN32 neg (docR32 m e mode neg)), .int .i64 (rFlag 24 (-126) 127 m e mode neg)]) ∧ Below W.heap.size W w') := fun W h => Round32_any neg z m bd e mode W h h0 hb he1 he2
    obtain ⟨V, hV⟩ : ∃ V, Hid (signN32 neg (docR32 m e mode neg) = V) := ⟨_, rfl⟩
    obtain ⟨G, hG⟩ : ∃ G, Hid (rFlag 24 (-126) 127 m e mode neg = G) := ⟨_, rfl⟩
    rw [hV.out, hG.out] at HR ⊢
    clear h0 hz hb he1 he2
    go_enter Tryd.func72, Tryd.ntmps72
    go_wp2_with fail
    refine (HI.out _ ((HZ.out.al _).al _)).mono ?_
    rintro r w1 ⟨rfl, hb⟩
    have HF1 := hid (fC HF.out hb (by simp))
    have HZ1 := hid (((HZ.out.al _).al _).below hb)
    obtain ⟨⟨c0, c1, c2, c3⟩, ⟨d0, d1, d2, d3⟩⟩ := scells32 HF1.out
    clear hb
    go_wp2_with fail
    refine (HR.out _ HZ1.out).mono ?_
    rintro r w2 ⟨rfl, hb2⟩
    go_wp2
    go_ret2
    exact ⟨rfl, bl_then (al2 HF1.out) hb2⟩
end Go.Proofs.YtofmdeidgopneaaDoor

namespace Go.Proofs.YtofmdeidgopneaaDoor
open Go.RowKit Go.IntWalk

set_option maxHeartbeats 1000000 in
theorem rNarrow_core (Good : World → Nat → Prop) (x : Nat) (mode kind E : Int) (ng : Bool) (V V' : Nat) (G : Int) (w : World) (hm1 : 0 ≤ mode) (hm2 : mode ≤ 4) (hV : IntKind.u32.wrap (V : Int) = (V' : Int))
    (hT : ∀ W, Calls Tryd.prog 74 #[.agg #[.int .i64 53, .int .i64 (-1022), .int .i64 1023, .int .i64 11], .int .u64 x] W fun r w' => ∃ z, r = .returned (.agg #[.int .i64 kind, .bool ng, .pointer (some ⟨z, 0, none⟩), .int .i64 E]) ∧ Good w' z ∧ Below W.heap.size W w')
    (hs : ∀ W z, Good W z → Calls Tryd.prog 72 #[.agg #[.int .i64 24, .int .i64 (-126), .int .i64 127, .int .i64 8], .agg #[.int .i64 kind, .bool ng, .pointer (some ⟨z, 0, none⟩), .int .i64 E], .int .i64 mode] W fun r w' => r = .returned (.tuple #[.int .u64 V, .int .i64 G]) ∧ Below W.heap.size W w') :
    Calls Tryd.prog 24 #[.int .u64 x, .int .i64 mode] w fun r w' => r = .returned (.tuple #[.int .u32 V', .int .i64 G, .int .i64 0]) ∧ Below w.heap.size w w' := by
  have hk : decide (0 ≤ mode ∧ mode ≤ 4) = true := decide_eq_true ⟨hm1, hm2⟩
  have HT := hid hT
  have HS := hid hs
  clear hT hs hm1 hm2
  go_enter Tryd.func24, Tryd.ntmps24
  go_wp2_with fail
  refine (Known_any mode _).mono ?_
  rintro r w1 ⟨rfl, rfl⟩
  rw [hk]
  clear hk
  go_wp2_with fail
  refine (Single_any _).mono ?_
  rintro r w2 ⟨rfl, b2⟩
  have B2 := hid b2
  clear b2
  go_wp2_with fail
  refine (Double_any _).mono ?_
  rintro r w3 ⟨rfl, b3⟩
  have B3 := hid (bl_then B2.out b3)
  clear b3
  go_wp2_with fail
  refine (HT.out _).mono ?_
  rintro r w4 ⟨z, rfl, g4, b4⟩
  have G4 := hid g4
  have B4 := hid (bl_then B3.out b4)
  clear b4 g4
  go_wp2_with fail
  refine (HS.out _ z G4.out).mono ?_
  rintro r w5 ⟨rfl, b5⟩
  have B5 := hid (bl_then B4.out b5)
  clear b5
  go_wp2
  go_ret3
  exact ⟨rfl, B5.out⟩
set_option maxHeartbeats 1000000 in
theorem rNarrow_bad (x : Nat) (mode : Int) (w : World) (hm : ¬ (0 ≤ mode ∧ mode ≤ 4)) :
    Calls Tryd.prog 24 #[.int .u64 x, .int .i64 mode] w fun r w' => r = .returned (.tuple #[.int .u32 0, .int .i64 0, .int .i64 20]) ∧ Below w.heap.size w w' := by
  have hk : decide (0 ≤ mode ∧ mode ≤ 4) = false := decide_eq_false hm
  clear hm
  go_enter Tryd.func24, Tryd.ntmps24
  go_wp2_with fail
  refine (Known_any mode _).mono ?_
  rintro r w1 ⟨rfl, rfl⟩
  rw [hk]
  clear hk
  go_wp2
  go_ret3
  exact ⟨rfl, Below.refl _ _⟩
set_option maxHeartbeats 1000000 in
theorem rWiden_core (Good : World → Nat → Prop) (x : Nat) (kind E : Int) (ng : Bool) (V : Nat) (G : Int) (w : World) (hx : x < 4294967296)
    (hT : ∀ W, Calls Tryd.prog 74 #[.agg #[.int .i64 24, .int .i64 (-126), .int .i64 127, .int .i64 8], .int .u64 x] W fun r w' => ∃ z, r = .returned (.agg #[.int .i64 kind, .bool ng, .pointer (some ⟨z, 0, none⟩), .int .i64 E]) ∧ Good w' z ∧ Below W.heap.size W w')
    (hs : ∀ W z, Good W z → Calls Tryd.prog 72 #[.agg #[.int .i64 53, .int .i64 (-1022), .int .i64 1023, .int .i64 11], .agg #[.int .i64 kind, .bool ng, .pointer (some ⟨z, 0, none⟩), .int .i64 E], .int .i64 0] W fun r w' => r = .returned (.tuple #[.int .u64 V, .int .i64 G]) ∧ Below W.heap.size W w') :
    Calls Tryd.prog 29 #[.int .u32 x] w fun r w' => r = .returned (.int .u64 V) ∧ Below w.heap.size w w' := by
  have HT := hid hT
  have HS := hid hs
  have hwx : IntKind.u64.wrap (x : Int) = (x : Int) := by rw [IntKind.wrap_u64]; omega
  clear hT hs hx
  go_enter Tryd.func29, Tryd.ntmps29
  go_wp2_with fail
  refine (Double_any _).mono ?_
  rintro r w2 ⟨rfl, b2⟩
  have B2 := hid b2
  clear b2
  go_wp2_with fail
  refine (Single_any _).mono ?_
  rintro r w3 ⟨rfl, b3⟩
  have B3 := hid (bl_then B2.out b3)
  clear b3
  go_wp2_with fail
  refine (HT.out _).mono ?_
  rintro r w4 ⟨z, rfl, g4, b4⟩
  have G4 := hid g4
  have B4 := hid (bl_then B3.out b4)
  clear b4 g4
  go_wp2_with fail
  refine (HS.out _ z G4.out).mono ?_
  rintro r w5 ⟨rfl, b5⟩
  have B5 := hid (bl_then B4.out b5)
  clear b5
  go_wp2
  go_ret
  exact ⟨rfl, B5.out⟩
set_option maxHeartbeats 1000000 in
theorem rFits_core (x V : Nat) (G G3 : Int) (w : World) (h : Calls Tryd.prog 24 #[.int .u64 x, .int .i64 0] w fun r w' => r = .returned (.tuple #[.int .u32 V, .int .i64 G, .int .i64 G3]) ∧ Below w.heap.size w w') :
    Calls Tryd.prog 31 #[.int .u64 x] w fun r w' => r = .returned (.bool (G == 0)) ∧ Below w.heap.size w w' := by
  have H := hid h
  clear h
  go_enter Tryd.func31, Tryd.ntmps31
  go_wp2_with fail
  refine H.out.mono ?_
  rintro r w1 ⟨rfl, b1⟩
  have B1 := hid b1
  clear b1
  go_wp2
  go_ret
  exact ⟨rfl, B1.out⟩
end Go.Proofs.YtofmdeidgopneaaDoor

namespace Go.Proofs.YtofmdeidgopneaaDoor
open Go.RowKit Go.IntWalk

theorem u32_wrap_nat (n : Nat) (h : n < 4294967296) : IntKind.u32.wrap (n : Int) = (n : Int) := by rw [IntKind.wrap_u32]; omega
/-- Take of any finite number. -/
theorem Take64_fin (x : Nat) (w : World) (hx : x < 18446744073709551616) (hf : x % 9223372036854775808 < 9218868437227405312) :
    Calls Tryd.prog 74 #[.agg #[.int .i64 53, .int .i64 (-1022), .int .i64 1023, .int .i64 11], .int .u64 x] w fun r w' => ∃ z, r = .returned (.agg #[.int .i64 0, .bool (decide (9223372036854775808 ≤ x)), .pointer (some ⟨z, 0, none⟩), .int .i64 (tE64 x)]) ∧ NumAt w' z (tM64 x : Int) 2 ∧ Below w.heap.size w w' := by
  unfold tE64 tM64
  by_cases h : x / 4503599627370496 % 2048 = 0
  · rw [if_pos h, if_pos h]; exact Take64_sub x w hx h
  · rw [if_neg h, if_neg h]; exact Take64_norm x w hx h (by omega)
theorem Take32_fin (x : Nat) (w : World) (hx : x < 4294967296) (hf : x % 2147483648 < 2139095040) :
    Calls Tryd.prog 74 #[.agg #[.int .i64 24, .int .i64 (-126), .int .i64 127, .int .i64 8], .int .u64 x] w fun r w' => ∃ z, r = .returned (.agg #[.int .i64 0, .bool (decide (2147483648 ≤ x)), .pointer (some ⟨z, 0, none⟩), .int .i64 (tE32 x)]) ∧ NumAt w' z (tM32 x : Int) 2 ∧ Below w.heap.size w w' := by
  unfold tE32 tM32
  by_cases h : x / 8388608 % 256 = 0
  · rw [if_pos h, if_pos h]; exact Take32_sub x w hx h
  · rw [if_neg h, if_neg h]; exact Take32_norm x w hx h (by omega)
theorem tE64_bd (x : Nat) : -1074 ≤ tE64 x ∧ tE64 x ≤ 1000 := by unfold tE64; split <;> omega
theorem tE32_bd (x : Nat) : -149 ≤ tE32 x ∧ tE32 x ≤ 200 := by unfold tE32; split <;> omega
theorem tM64_zero (x : Nat) (hf : x % 9223372036854775808 < 9218868437227405312) : tM64 x = 0 ↔ x % 9223372036854775808 = 0 := by
  unfold tM64
  split <;> omega
theorem tM32_zero (x : Nat) (hf : x % 2147483648 < 2139095040) : tM32 x = 0 ↔ x % 2147483648 = 0 := by
  unfold tM32
  split <;> omega
theorem rNarrow_any (x : Nat) (mode : Int) (w : World) (hx : x < 18446744073709551616) (m1 : 0 ≤ mode) (m2 : mode ≤ 4) :
    Calls Tryd.prog 24 #[.int .u64 x, .int .i64 mode] w fun r w' => r = .returned (.tuple #[.int .u32 (narrowOf x mode), .int .i64 (narrowFl x mode), .int .i64 0]) ∧ Below w.heap.size w w' := by
  unfold narrowOf narrowFl
  by_cases hn : 9218868437227405312 < x % 9223372036854775808
  · rw [if_pos hn, if_pos (Or.inl (Nat.le_of_lt hn))]
    refine rNarrow_core (fun _ _ => True) x mode 2 0 false 2143289344 2143289344 0 w m1 m2 (by decide) (fun W => ?_) (fun W z _ => same32_nan false _ 0 mode W)
    refine (Take64_nan x W hx (by omega) (by omega)).mono ?_
    rintro r w' ⟨z, hr, hb⟩
    exact ⟨z, hr, trivial, hb⟩
  · rw [if_neg hn]
    by_cases hi : x % 9223372036854775808 = 9218868437227405312
    · rw [if_pos hi, if_pos (Or.inl (Nat.le_of_eq hi.symm))]
      obtain ⟨_, _, s3⟩ := signN_mod32 (decide (9223372036854775808 ≤ x)) 2139095040 (by decide)
      refine rNarrow_core (fun _ _ => True) x mode 1 (-1074) (decide (9223372036854775808 ≤ x)) _ _ 0 w m1 m2 (u32_wrap_nat _ s3) (fun W => ?_) (fun W z _ => same32_inf _ _ (-1074) mode W)
      refine (Take64_inf x W hx (by omega) (by omega)).mono ?_
      rintro r w' ⟨z, hr, hb⟩
      exact ⟨z, hr, trivial, hb⟩
    · rw [if_neg hi]
      have hf : x % 9223372036854775808 < 9218868437227405312 := by omega
      have hz := tM64_zero x hf
      obtain ⟨e1, e2⟩ := tE64_bd x
      have hsame := fun (W : World) (z : Nat) (h : NumAt W z (tM64 x : Int) 2) => same32_fin (decide (9223372036854775808 ≤ x)) z (tM64 x) 2 (tE64 x) mode W h (by decide) (by omega) (by omega)
      by_cases h0 : x % 9223372036854775808 = 0
      · rw [if_pos h0, if_pos (Or.inr h0)]
        rw [if_pos (hz.2 h0), if_pos (hz.2 h0)] at hsame
        obtain ⟨_, _, s3⟩ := signN_mod32 (decide (9223372036854775808 ≤ x)) 0 (by decide)
        exact rNarrow_core (fun W z => NumAt W z (tM64 x : Int) 2) x mode 0 (tE64 x) (decide (9223372036854775808 ≤ x)) _ _ 0 w m1 m2 (u32_wrap_nat _ s3) (fun W => Take64_fin x W hx hf) hsame
      · rw [if_neg h0, if_neg (by omega)]
        have hm0 : tM64 x ≠ 0 := fun c => h0 (hz.1 c)
        rw [if_neg hm0, if_neg hm0] at hsame
        obtain ⟨k, k1, k2, k3⟩ := take64 x hf h0
        obtain ⟨_, _, r3, _⟩ := rnd_scale 24 (-126) 127 (pMant x) k (pExp x) mode (decide (9223372036854775808 ≤ x)) k3
        rw [docR32_is _ _ _ _ hm0 m1 m2, k1, k2, nMag_scale _ _ _ _ _ k3, r3] at hsame
        obtain ⟨_, _, s3⟩ := signN_mod32 (decide (9223372036854775808 ≤ x)) (nMag (pMant x) (pExp x) mode (decide (9223372036854775808 ≤ x))) (by have := (n_conv (pMant x) (pExp x) mode (decide (9223372036854775808 ≤ x))).2; omega)
        refine rNarrow_core (fun W z => NumAt W z (tM64 x : Int) 2) x mode 0 (tE64 x) (decide (9223372036854775808 ≤ x)) _ _ _ w m1 m2 (u32_wrap_nat _ s3) (fun W => Take64_fin x W hx hf) ?_
        rw [k1, k2]
        exact hsame
theorem rFits_any (x : Nat) (w : World) (hx : x < 18446744073709551616) :
    Calls Tryd.prog 31 #[.int .u64 x] w fun r w' => r = .returned (.bool (narrowFl x 0 == 0)) ∧ Below w.heap.size w w' :=
  rFits_core x _ _ _ w (rNarrow_any x 0 w hx (by decide) (by decide))
/-- A single's value is a number's, unrounded. -/
theorem wide_mag (x : Nat) (neg : Bool) (hf : x % 2147483648 < 2139095040) (h0 : tM32 x ≠ 0) : rMag 53 (-1022) 1023 (tM32 x) (tE32 x) 0 neg = mag64 (x % 2147483648) := by
  obtain ⟨e1, e2⟩ := tE32_bd x
  have hm : tM32 x < 2 ^ 24 := by unfold tM32; simp only [Nat.reducePow]; split <;> omega
  have hb := bitLen_le _ 24 hm
  obtain ⟨a1, a2, a3, a4⟩ := fits_exact 53 (-1022) 1023 (tM32 x) (tE32 x) 0 neg h0 (by omega) (by omega) (by omega)
  unfold rMag
  rw [if_neg a2]
  obtain ⟨o1, o2, o3⟩ := rOver_not 53 (-1022) 1023 (tM32 x) (tE32 x) 0 neg 53 rfl (by decide) (by decide) (by decide) a2
  have hS0 : rSteps 53 (-1022) (tM32 x) (tE32 x) 0 neg ≠ 0 := by rw [a4]; exact Nat.mul_ne_zero h0 (Nat.pos_iff_ne_zero.1 (Nat.two_pow_pos _))
  obtain ⟨_, g2⟩ := good_val _ _ hS0 o1 o2 o3
  obtain ⟨_, v2⟩ := mag64_val (x % 2147483648) hf
  apply nv_inj
  rw [g2, v2, a4, Nat.mul_assoc, ← Nat.pow_add]
  have hn : nv32 (x % 2147483648) = tM32 x * 2 ^ (tE32 x + 149).toNat := by
    unfold nv32 tM32 tE32
    by_cases h : x / 8388608 % 256 = 0
    · rw [if_pos (by omega), if_pos h, if_pos h]
      have e : x % 2147483648 = x % 8388608 := by omega
      rw [e]
      show _ = _ * 2 ^ 0
      omega
    · rw [if_neg (by omega), if_neg h, if_neg h]
      have e : x % 2147483648 % 8388608 = x % 8388608 := by omega
      have e2 : x % 2147483648 / 8388608 - 1 = (((x / 8388608 % 256 : Nat) : Int) - 150 + 149).toNat := by omega
      rw [e, e2, Nat.add_comm]
  rw [hn]
  unfold scl
  rw [Nat.mul_assoc, ← Nat.pow_add]
  congr 2
  have := kcl_is
  omega
theorem rWiden_any (x : Nat) (w : World) (hx : x < 4294967296) :
    Calls Tryd.prog 29 #[.int .u32 x] w fun r w' => r = .returned (.int .u64 (widenOf x)) ∧ Below w.heap.size w w' := by
  unfold widenOf
  by_cases hn : 2139095040 < x % 2147483648
  · rw [if_pos hn]
    refine rWiden_core (fun _ _ => True) x 2 0 false 9221120237041090561 0 w hx (fun W => ?_) (fun W z _ => same64_nan false _ 0 0 W)
    refine (Take32_nan x W hx (by omega) (by omega)).mono ?_
    rintro r w' ⟨z, hr, hb⟩
    exact ⟨z, hr, trivial, hb⟩
  · rw [if_neg hn]
    by_cases hi : x % 2147483648 = 2139095040
    · rw [if_pos hi]
      refine rWiden_core (fun _ _ => True) x 1 (-149) (decide (2147483648 ≤ x)) _ 0 w hx (fun W => ?_) (fun W z _ => same64_inf _ _ (-149) 0 W)
      refine (Take32_inf x W hx (by omega) (by omega)).mono ?_
      rintro r w' ⟨z, hr, hb⟩
      exact ⟨z, hr, trivial, hb⟩
    · rw [if_neg hi]
      have hf : x % 2147483648 < 2139095040 := by omega
      have hz := tM32_zero x hf
      obtain ⟨e1, e2⟩ := tE32_bd x
      have hsame := fun (W : World) (z : Nat) (h : NumAt W z (tM32 x : Int) 2) => same64_fin (decide (2147483648 ≤ x)) z (tM32 x) 2 (tE32 x) 0 W h (by decide) (by omega) (by omega)
      by_cases h0 : tM32 x = 0
      · rw [if_pos h0, if_pos h0] at hsame
        have e : mag64 (x % 2147483648) = 0 := by rw [hz.1 h0]; decide +kernel
        rw [e]
        exact rWiden_core (fun W z => NumAt W z (tM32 x : Int) 2) x 0 (tE32 x) (decide (2147483648 ≤ x)) _ 0 w hx (fun W => Take32_fin x W hx hf) hsame
      · rw [if_neg h0, if_neg h0, docR64_is _ _ _ _ h0 (by decide) (by decide), wide_mag x _ hf h0] at hsame
        exact rWiden_core (fun W z => NumAt W z (tM32 x : Int) 2) x 0 (tE32 x) (decide (2147483648 ≤ x)) _ _ w hx (fun W => Take32_fin x W hx hf) hsame
end Go.Proofs.YtofmdeidgopneaaDoor

namespace Go.Proofs.YtofmdeidgopneaaDoor
open Go.RowKit Go.IntWalk

set_option maxHeartbeats 400000 in
theorem stepsOf_nil (neg : Bool) (mode : Int) (w : World) :
    Calls Tryd.prog 138 #[.agg #[.bool neg, .int .u64 0, .int .i64 0], .int .i64 (-53), .int .i64 mode] w fun r w' => r = .returned (.tuple #[.int .u64 0, .int .i64 0]) ∧ Below w.heap.size w w' := by
  have HC := hid (fun (w : World) => cut_low neg 0 53 0 w (by decide) (by decide))
  go_enter Tryd.func138, Tryd.ntmps138
  go_wp2_with fail
  refine (HC.out _).mono ?_
  rintro r w1 ⟨rfl, hb⟩
  go_wp2
  go_ret2
  exact ⟨rfl, bl_alloc hb⟩
theorem len_zero (w : World) : Calls Tryd.prog 98 #[.int .u64 0] w fun r w' => r = .returned (.int .i64 0) ∧ w' = w := len_l 0 0 w (by decide) bitLen_zero
set_option maxHeartbeats 400000 in
theorem round64_nil (neg : Bool) (mode : Int) (w : World) (hT : Tab w) (hs : 1 < w.heap.size) :
    Calls Tryd.prog 114 #[.agg #[.bool neg, .int .u64 0, .int .i64 0], .agg #[.int .i64 53, .int .i64 (-1022), .int .i64 1023], .int .i64 mode] w fun r w' => r = .returned (.tuple #[.float .f64 (signN neg 0), .int .i64 0]) ∧ Below w.heap.size w w' := by
  have HO := hid (fun (w : World) hT hs => Of_good64 neg 0 (-53) w (by decide) (by decide) (by rw [bitLen_zero]; decide) hT hs)
  have hw0 : wMag 0 (-53) = 0 := by unfold wMag; rw [if_pos rfl]
  rw [hw0] at HO
  go_enter Tryd.func114, Tryd.ntmps114
  go_wp2_with fail
  go_quiet (first | (go_at_call 98; exact Calls.quiet_of_same (len_zero _)))
  go_wp2_with fail
  refine (stepsOf_nil neg mode _).mono ?_
  rintro r w1 ⟨rfl, hb⟩
  obtain ⟨hcl, hf⟩ := bcell hb
  have hz : w.heap.size + 1 < w1.heap.size := by have := hb.size; simp at this; omega
  have hcells : (w1.cell? ⟨w.heap.size, 0, none⟩ = some (.bool neg) ∧ w1.cell? ⟨w.heap.size + 1, 0, none⟩ = some (.int .i64 53) ∧ w1.cell? ⟨w.heap.size + 1, 1, none⟩ = some (.int .i64 (-1022)) ∧ w1.cell? ⟨w.heap.size + 1, 2, none⟩ = some (.int .i64 1023)) := by
    refine ⟨?_, ?_, ?_, ?_⟩ <;> (rw [hcl _ _ (by simp <;> omega)]; simp [go_sem])
  obtain ⟨c0, c1, c2, c3⟩ := hcells
  have hbb : Hid (Below w.heap.size w w1) := by
    refine bl_then ?_ hb
    repeat (first | exact Below.refl _ _ | refine bl_al ?_ _ | refine bl_drewN _ ?_ | refine Below.drew ?_ | refine Below.setCell ?_ (by simp) _)
  clear hcl hf hb
  go_wp2_with fail
  go_quiet (first | (go_at_call 98; exact Calls.quiet_of_same (len_zero _)))
  go_wp2_with fail
  refine (HO.out _ (hT.below hs (bl_drewN _ hbb.out)) ?_).mono ?_
  · have := hbb.out.size; first | (simp; omega) | omega
  rintro r w2 ⟨rfl, hb2⟩
  go_wp2
  go_ret2
  exact ⟨rfl, bl_then (bl_drewN _ hbb.out) hb2⟩
end Go.Proofs.YtofmdeidgopneaaDoor

namespace Go.Proofs.YtofmdeidgopneaaDoor
open Go.RowKit Go.IntWalk

theorem ret_f32' {a a' : Nat} (h1 : a = a') : Ending.returned (.float .f32 a) = .returned (.float .f32 a') := by rw [h1]
set_option maxHeartbeats 400000 in
theorem is32_any (a b : Nat) (w : World) :
    Calls Tryd.prog 75 #[.float .f32 a, .int .u32 b] w fun r w' => r = .returned (.bool (a == b)) ∧ w' = w := by
  have h1 := f64bits32
  go_enter Tryd.func75, Tryd.ntmps75
  go_wp2
  go_ret
  exact ⟨ret_bool (nat_beq a b), rfl⟩
theorem nzero_run (w : World) : (convert 29 35 (.float .f64 9223372036854775808)).run Tryd.prog w = .ok (.float .f32 2147483648) w := conv_run _ _ (by decide +kernel) w
theorem copy_nzero (w : World) : Calls Tryd.prog 61 #[.float .f64 0, .float .f64 13830554455654793216] w fun e w' => e = .returned (.float .f64 9223372036854775808) ∧ w' = w := copysign_any 0 true 4607182418800017408 w (by decide) (by decide)
set_option maxHeartbeats 400000 in
theorem noughtOf_other (x y : Nat) (mode : Int) (w : World) (hx : x < 18446744073709551616) (hy : y < 18446744073709551616) (h : (canonOf x == canonOf y) = false) :
    Calls Tryd.prog 117 #[.float .f64 x, .float .f64 y, .int .i64 mode] w fun r w' => r = .returned (.float .f32 (if mode = 4 then 2147483648 else 0)) ∧ Below w.heap.size w w' := by
  have h1 := nzero_run
  have HS := hid (fun (w : World) => Same_any x y w hx hy)
  rw [h] at HS
  have HC := hid copy_nzero
  clear h
  by_cases hm : mode = 4
  · rw [if_pos hm]
    subst hm
    go_enter Tryd.func117, Tryd.ntmps117
    go_wp2_with fail
    refine (HS.out _).mono ?_
    rintro r w1 ⟨rfl, hb⟩
    go_wp2_with fail
    refine (HC.out _).mono ?_
    rintro r w2 ⟨rfl, rfl⟩
    go_wp2
    go_ret
    exact ⟨rfl, hb⟩
  · rw [if_neg hm]
    have hm' : (mode == 4) = false := by simpa using hm
    clear hm
    go_enter Tryd.func117, Tryd.ntmps117
    go_wp2_with fail
    refine (HS.out _).mono ?_
    rintro r w1 ⟨rfl, hb⟩
    go_wp2
    go_ret
    exact ⟨rfl, hb⟩
set_option maxHeartbeats 400000 in
theorem addition_zero (x y s r : Nat) (mode : Int) (w : World) (hx : x < 18446744073709551616) (hy : y < 18446744073709551616) (hs2 : s < 18446744073709551616) (nx : x % 9223372036854775808 ≤ 9218868437227405312) (ny : y % 9223372036854775808 ≤ 9218868437227405312) (hs0 : s % 9223372036854775808 = 0)
    (hadd : FloatKind.f64.format.add x y = some s)
    (h : ∀ w, Calls Tryd.prog 117 #[.float .f64 x, .float .f64 y, .int .i64 mode] w fun e w' => e = .returned (.float .f32 r) ∧ Below w.heap.size w w') :
    Calls Tryd.prog 82 #[.float .f64 x, .float .f64 y, .int .i64 mode] w fun e w' => e = .returned (.tuple #[.float .f32 r, .int .i64 0]) ∧ Below w.heap.size w w' := by
  have H := hid h
  have ha : ∀ w : World, (binOp .add 29 (.float .f64 x) (.float .f64 y)).run Tryd.prog w = .ok (.float .f64 s) w := fun w => run_float_arith w .add _ .f64 x y s hadd
  have h1 := hid (fun (w : World) => isnan_any x w hx)
  have h2 := hid (fun (w : World) => isnan_any y w hy)
  have h3 := hid (fun (w : World) => isnan_any s w hs2)
  rw [decide_eq_false (by omega)] at h1 h2 h3
  have hz : (FloatKind.f64.format.order s 0 == some .eq) = true := by rw [order_zero s hs2]; exact decide_eq_true hs0
  clear h hadd nx ny hs0 hx hy hs2
  go_enter Tryd.func82, Tryd.ntmps82
  go_wp2_with fail
  refine (h1.out _).mono ?_
  rintro e w1 ⟨rfl, rfl⟩
  go_wp2_with fail
  refine (h2.out _).mono ?_
  rintro e w1 ⟨rfl, rfl⟩
  go_wp2_with fail
  refine (h3.out _).mono ?_
  rintro e w1 ⟨rfl, rfl⟩
  go_wp2_with fail
  refine (H.out _).mono ?_
  rintro e w1 ⟨rfl, hb⟩
  go_wp2
  go_ret2
  exact ⟨rfl, hb⟩
set_option maxHeartbeats 400000 in
theorem Add_core (a b X : Nat) (mode Y : Int) (w : World) (ha : a < 4294967296) (hb : b < 4294967296) (hm1 : 0 ≤ mode) (hm2 : mode ≤ 4) (hT : Tab w) (hs : 1 < w.heap.size)
    (h : ∀ w, Tab w → 1 < w.heap.size → Calls Tryd.prog 82 #[.float .f64 (widenOf a), .float .f64 (widenOf b), .int .i64 mode] w fun e w' => e = .returned (.tuple #[.float .f32 X, .int .i64 Y]) ∧ Below w.heap.size w w') :
    Calls Tryd.prog 40 #[.float .f32 a, .float .f32 b, .int .i64 mode] w fun e w' => e = .returned (.tuple #[.float .f32 X, .int .i64 Y, .int .i64 0]) ∧ Below w.heap.size w w' := by
  have hk : decide (0 ≤ mode ∧ mode ≤ 4) = true := decide_eq_true ⟨hm1, hm2⟩
  have H := hid h
  have H1 := hid (fun (w : World) => Widen_any a w ha)
  have H2 := hid (fun (w : World) => Widen_any b w hb)
  obtain ⟨A, hA⟩ : ∃ A, Hid (widenOf a = A) := ⟨_, rfl⟩
  obtain ⟨B, hB⟩ : ∃ B, Hid (widenOf b = B) := ⟨_, rfl⟩
  rw [hA.out] at H1 H
  rw [hB.out] at H2 H
  clear h hm1 hm2 ha hb
  go_enter Tryd.func40, Tryd.ntmps40
  go_wp2_with fail
  refine (known_any mode _).mono ?_
  rintro e w1 ⟨rfl, rfl⟩
  rw [hk]
  clear hk
  go_wp2_with fail
  refine (H1.out _).mono ?_
  rintro e w1 ⟨rfl, hb1⟩
  go_wp2_with fail
  refine (H2.out _).mono ?_
  rintro e w2 ⟨rfl, hb2⟩
  go_wp2_with fail
  refine (H.out _ (hT.below hs (bl_then hb1 hb2)) (Nat.lt_of_lt_of_le hs (bl_then hb1 hb2).size)).mono ?_
  rintro e w3 ⟨rfl, hb3⟩
  go_wp2
  go_ret3
  exact ⟨rfl, bl_then (bl_then hb1 hb2) hb3⟩
theorem at_add : widenOf 1065353216 = 4607182418800017408 ∧ widenOf 3212836864 = 13830554455654793216 ∧ FloatKind.f64.format.add 4607182418800017408 13830554455654793216 = some 0 ∧ (canonOf 4607182418800017408 == canonOf 13830554455654793216) = false := by decide +kernel
theorem Add_1 (w : World) (hT : Tab w) (hs : 1 < w.heap.size) :
    Calls Tryd.prog 40 #[.float .f32 1065353216, .float .f32 3212836864, .int .i64 4] w fun e w' => e = .returned (.tuple #[.float .f32 2147483648, .int .i64 0, .int .i64 0]) ∧ Below w.heap.size w w' := by
  obtain ⟨a1, a2, a3, a4⟩ := at_add
  refine Add_core 1065353216 3212836864 2147483648 4 0 w (by decide) (by decide) (by decide) (by decide) hT hs (fun w hT hs => ?_)
  rw [a1, a2]
  exact addition_zero _ _ 0 _ 4 w (by decide) (by decide) (by decide) (by decide) (by decide) (by decide) a3 (fun w => noughtOf_other _ _ 4 w (by decide) (by decide) a4)
theorem at_narrow : narrowOf 4607182419068452864 3 = 1065353217 ∧ narrowFl 4607182419068452864 3 = 1 ∧ narrowOf 4607182419068452864 0 = 1065353216 ∧ narrowFl 4607182419068452864 0 = 1 ∧ narrowFl 4602678819172646912 0 = 0 ∧ widenOf 1056964608 = 4602678819172646912 := by decide +kernel
theorem at_300 : pExp 4643985272004935680 = 2 ∧ canonOf 4643985272004935680 = 4643985272004935680 ∧ (FloatKind.f64.format.order 4643985272004935680 13861798426916814848 == some .lt) = false := by decide +kernel
theorem Int_300 (w : World) (hT : Tab w) (hs : 1 < w.heap.size) :
    Calls Tryd.prog 77 #[.float .f64 4643985272004935680, .int .i64 8, .int .i64 0] w fun r w' => r = .returned (.tuple #[.int .i64 127, .int .i64 8, .int .i64 0]) ∧ Below w.heap.size w w' := by
  obtain ⟨a1, a2, a3⟩ := at_300
  have hw := Whole_plain 4643985272004935680 0 w (by decide) (by decide) (by decide) (Or.inr (by rw [a1]; decide)) hT hs
  rw [a2] at hw
  exact Int8_high _ _ 0 0 w (by decide) (by decide) (by decide +kernel) (by decide +kernel) hw
set_option maxHeartbeats 400000 in
theorem awake2_any (w : World) (hT : Tab w) (hs : 1 < w.heap.size) :
    Calls Tryd.prog 32 #[] w fun r w' => r = .returned (.bool true) ∧ Below w.heap.size w w' := by
  obtain ⟨a1, a2, a3, a4, a5, a6⟩ := at_narrow
  have H1 := hid (fun (w : World) hT hs => Narrow_any 4607182419068452864 3 w (by decide) (by decide) (by decide) hT hs)
  have H2 := hid (fun (w : World) hT hs => Narrow_any 4607182419068452864 0 w (by decide) (by decide) (by decide) hT hs)
  have H3 := hid (fun (w : World) hT hs => Fits_any 4602678819172646912 w (by decide) hT hs)
  have H4 := hid (fun (w : World) => Widen_any 1056964608 w (by decide))
  rw [a1, a2] at H1
  rw [a3, a4] at H2
  rw [a5] at H3
  rw [a6] at H4
  have ho : (FloatKind.f64.format.order 4602678819172646912 4602678819172646912 == some .eq) = true := by decide +kernel
  clear a1 a2 a3 a4 a5 a6
  go_enter Tryd.func32, Tryd.ntmps32
  go_wp2_with fail
  refine (H1.out _ hT hs).mono ?_
  rintro r w1 ⟨rfl, hb1⟩
  go_wp2_with fail
  refine (H2.out _ (hT.below hs hb1) (Nat.lt_of_lt_of_le hs hb1.size)).mono ?_
  rintro r w2 ⟨rfl, hb2⟩
  have hB2 := hid (bl_then hb1 hb2)
  clear hb1 hb2
  go_wp2_with fail
  refine (Add_1 _ (hT.below hs hB2.out) (Nat.lt_of_lt_of_le hs hB2.out.size)).mono ?_
  rintro r w3 ⟨rfl, hb3⟩
  have hB3 := hid (bl_then hB2.out hb3)
  clear hb3
  go_wp2_with fail
  refine (Int_300 _ (hT.below hs hB3.out) (Nat.lt_of_lt_of_le hs hB3.out.size)).mono ?_
  rintro r w4 ⟨rfl, hb4⟩
  have hB4 := hid (bl_then hB3.out hb4)
  clear hb4
  go_wp2_with fail
  refine (is32_any 1065353217 1065353217 _).mono ?_
  rintro r w5 ⟨rfl, rfl⟩
  go_wp2_with fail
  refine (is32_any 1065353216 1065353216 _).mono ?_
  rintro r w5 ⟨rfl, rfl⟩
  go_wp2_with fail
  refine (is32_any 2147483648 2147483648 _).mono ?_
  rintro r w5 ⟨rfl, rfl⟩
  go_wp2_with fail
  refine (H3.out _ (hT.below hs hB4.out) (Nat.lt_of_lt_of_le hs hB4.out.size)).mono ?_
  rintro r w5 ⟨rfl, hb5⟩
  have hB5 := hid (bl_then hB4.out hb5)
  clear hb5
  go_wp2_with fail
  refine (H4.out _).mono ?_
  rintro r w6 ⟨rfl, hb6⟩
  go_wp2
  go_ret
  exact ⟨rfl, bl_then hB5.out hb6⟩
end Go.Proofs.YtofmdeidgopneaaDoor

namespace Go.Proofs.YtofmdeidgopneaaDoor
open Go.ChangeShapes Go.WideShapes Go.ChangeAt Go.RowKit

theorem own : ownKnob Tryd.prog.godebug = none := by kernel_rfl
theorem gTab : Tryd.prog.globalNamed "math/bits.deBruijn64tab" = some 1 := by kernel_rfl
theorem tTab : (Tryd.prog.globals[1]?).map (·.type) = some 156 := by kernel_rfl
theorem laid_is : (Rows.laid_math_bits_deBruijn64tab : DataW Unit) = Lib.tabData .u8 (Lib.deBruijn64tab.map fun n : Nat => (n : Int)) := by kernel_rfl

theorem door_met (os : Os) (args : Array Value) : laidMetH Tryd.prog [("math/bits.deBruijn64tab", Rows.laid_math_bits_deBruijn64tab)] ((World.doorLaid Tryd.prog 400 os).forCall (fun _ _ => 0) ⟨#[], args, []⟩).memory :=
  laidMetH_of_parts3 (fuel := 8) (laidMet_of_run' 8 (by kernel_rfl) (by kernel_rfl)) (by kernel_rfl) (by kernel_rfl)

theorem tab_of_laid {W : World} (h : laidMetH Tryd.prog [("math/bits.deBruijn64tab", Rows.laid_math_bits_deBruijn64tab)] W) : Tab W ∧ 1 < W.heap.size := by
  rw [MakeChecks.laidMetH_plain _ _ _ (by kernel_rfl)] at h
  rw [laid_is] at h
  have ht := Lib.tabIs_of_head gTab tTab Tryd.underlying156 Tryd.underlying5 (by kernel_rfl) (by kernel_rfl) h
  have hT : Tab W := fun j hj => by
    have := Lib.TabIs.cell ht gTab j (by rw [List.length_map]; exact hj)
    rw [this]
    have e : (Lib.deBruijn64tab.map fun n : Nat => (n : Int)).getD j 0 = ((Lib.deBruijn64tab.getD j 0 : Nat) : Int) := by
      rw [List.getD_eq_getElem?_getD, List.getD_eq_getElem?_getD, List.getElem?_map]
      cases Lib.deBruijn64tab[j]? <;> rfl
    rw [e]
  exact ⟨hT, World.block_lt_of_cell? W _ (hT 0 (by decide))⟩
end Go.Proofs.YtofmdeidgopneaaDoor

namespace Go.Proofs.YtofmdeidgopneaaDoor
open Go.RowKit Go.IntWalk

theorem over_big (P L H : Int) (m : Nat) (e mode : Int) (neg : Bool) (p : Nat) (h0 : m ≠ 0) (hp : P = (p : Int)) (p1 : 1 ≤ p) (hL : L ≤ rTop m e) (hH : H < rTop m e) : rOver P L H m e mode neg := by
  have hu : rUnit P L m e = rTop m e - P + 1 := by unfold rUnit; omega
  have h1 : 2 ^ (p - 1) ≤ cutQ m (rUnit P L m e - e) := cutQ_ge m e _ (p - 1) h0 (by rw [hu]; unfold rTop; omega)
  have h2 : 2 ^ (p - 1) ≤ rSteps P L m e mode neg := by unfold rSteps stepQ; omega
  have h3 := lt_bitLen h2
  unfold rOver
  rw [hu]
  omega
theorem under_small (P L : Int) (m : Nat) (e mode : Int) (neg : Bool) (h0 : m ≠ 0) (hP : 1 ≤ P) (h : rTop m e ≤ L - P - 1) : rUnit P L m e = L - P + 1 ∧ cutR m (L - P + 1 - e) = 1 ∧ rSteps P L m e mode neg = 0 + if (1 : Nat) ≠ 0 ∧ growsOf mode neg (decide ((0 : Nat) % 2 = 1)) 1 = true then 1 else 0 := by
  have hu : rUnit P L m e = L - P + 1 := by unfold rUnit; omega
  have hb := bitLen_hi m
  have hp := bitLen_pos h0
  obtain ⟨s, hs⟩ : ∃ s : Nat, L - P + 1 - e = (s : Int) + 1 := ⟨(L - P - e).toNat, by unfold rTop at h; omega⟩
  have hms : m < 2 ^ s := Nat.lt_of_lt_of_le hb (Nat.pow_le_pow_right (by decide) (by unfold rTop at h; omega))
  have e1 : (L - P + 1 - e).toNat = s + 1 := by omega
  have h2 : 2 ^ (s + 1) = 2 * 2 ^ s := by rw [Nat.pow_succ, Nat.mul_comm]
  have hq : cutQ m (L - P + 1 - e) = 0 := by
    unfold cutQ
    rw [if_neg (by omega), e1]
    exact Nat.div_eq_of_lt (by omega)
  have hr : cutR m (L - P + 1 - e) = 1 := by
    unfold cutR restN
    rw [if_neg (by omega), e1, Nat.mod_eq_of_lt (by omega), if_neg h0, if_pos (by omega)]
  refine ⟨hu, hr, ?_⟩
  unfold rSteps stepQ
  rw [hu, hq, hr]
def clamp5 (k : Int) : Int := max (-5000) (min k 5000)
theorem clamp_same (m : Nat) (e k mode : Int) (neg : Bool) (h0 : m ≠ 0) (h1 : -1074 ≤ e) (h2 : e + (bitLen m : Int) - 1 ≤ 1023) : rMag 53 (-1022) 1023 m (e + clamp5 k) mode neg = rMag 53 (-1022) 1023 m (e + clampK k) mode neg ∧ rFlag 53 (-1022) 1023 m (e + clamp5 k) mode neg = rFlag 53 (-1022) 1023 m (e + clampK k) mode neg := by
  have hp := bitLen_pos h0
  by_cases ha : 5000 < k
  · have o1 : rOver 53 (-1022) 1023 m (e + clamp5 k) mode neg := over_big 53 (-1022) 1023 m _ mode neg 53 h0 rfl (by decide) (by unfold rTop clamp5; omega) (by unfold rTop clamp5; omega)
    have o2 : rOver 53 (-1022) 1023 m (e + clampK k) mode neg := over_big 53 (-1022) 1023 m _ mode neg 53 h0 rfl (by decide) (by unfold rTop clampK; omega) (by unfold rTop clampK; omega)
    unfold rMag rFlag
    rw [if_pos o1, if_pos o2, if_pos o1, if_pos o2]
    exact ⟨rfl, rfl⟩
  · by_cases hb : k < -5000
    · have t1 : rTop m (e + clamp5 k) ≤ -1022 - 53 - 1 := by unfold rTop clamp5; omega
      have t2 : rTop m (e + clampK k) ≤ -1022 - 53 - 1 := by unfold rTop clampK; omega
      obtain ⟨a1, a2, a3⟩ := under_small 53 (-1022) m (e + clamp5 k) mode neg h0 (by decide) t1
      obtain ⟨b1, b2, b3⟩ := under_small 53 (-1022) m (e + clampK k) mode neg h0 (by decide) t2
      have hS : rSteps 53 (-1022) m (e + clamp5 k) mode neg = rSteps 53 (-1022) m (e + clampK k) mode neg := a3.trans b3.symm
      have hU : rUnit 53 (-1022) m (e + clamp5 k) = rUnit 53 (-1022) m (e + clampK k) := a1.trans b1.symm
      have hO : rOver 53 (-1022) 1023 m (e + clamp5 k) mode neg ↔ rOver 53 (-1022) 1023 m (e + clampK k) mode neg := by unfold rOver; rw [hS, hU]
      unfold rMag rFlag
      rw [hS, hU]
      rw [← hU, a1, a2, b2]
      by_cases c : rOver 53 (-1022) 1023 m (e + clampK k) mode neg
      · rw [if_pos c, if_pos (hO.2 c), if_pos c, if_pos (hO.2 c)]
        exact ⟨rfl, rfl⟩
      · rw [if_neg c, if_neg (fun d => c (hO.1 d)), if_neg c, if_neg (fun d => c (hO.1 d)), if_pos (show rTop m (e + clamp5 k) < -1022 by omega), if_pos (show rTop m (e + clampK k) < -1022 by omega)]
        exact ⟨rfl, rfl⟩
    · have e1 : clamp5 k = clampK k := by unfold clamp5 clampK; omega
      rw [e1]
      exact ⟨rfl, rfl⟩
set_option maxHeartbeats 1000000 in
theorem rScale_core (Good : World → Nat → Prop) (x : Nat) (k mode kind E E' : Int) (ng : Bool) (V : Nat) (G : Int) (w : World) (hm1 : 0 ≤ mode) (hm2 : mode ≤ 4) (he1 : -2000 ≤ E) (he2 : E ≤ 2000) (hkind : (kind = 0 ∧ E' = E + clamp5 k) ∨ (kind ≠ 0 ∧ E' = E))
    (hG : ∀ W W' z, Good W z → Below W.heap.size W W' → Good W' z)
    (hT : ∀ W, Calls Tryd.prog 74 #[.agg #[.int .i64 53, .int .i64 (-1022), .int .i64 1023, .int .i64 11], .int .u64 x] W fun r w' => ∃ z, r = .returned (.agg #[.int .i64 kind, .bool ng, .pointer (some ⟨z, 0, none⟩), .int .i64 E]) ∧ Good w' z ∧ Below W.heap.size W w')
    (hs : ∀ W z, Good W z → Calls Tryd.prog 72 #[.agg #[.int .i64 53, .int .i64 (-1022), .int .i64 1023, .int .i64 11], .agg #[.int .i64 kind, .bool ng, .pointer (some ⟨z, 0, none⟩), .int .i64 E'], .int .i64 mode] W fun r w' => r = .returned (.tuple #[.int .u64 V, .int .i64 G]) ∧ Below W.heap.size W w') :
    Calls Tryd.prog 34 #[.int .u64 x, .int .i64 k, .int .i64 mode] w fun r w' => r = .returned (.tuple #[.int .u64 V, .int .i64 G, .int .i64 0]) ∧ Below w.heap.size w w' := by
  have hk : decide (0 ≤ mode ∧ mode ≤ 4) = true := decide_eq_true ⟨hm1, hm2⟩
  have HT := hid hT
  have HS := hid hs
  have HGD := hid hG
  obtain ⟨c5, hc5⟩ : ∃ c5, Hid (clamp5 k = c5) := ⟨_, rfl⟩
  have hc5a : max (-5000) (min k 5000) = c5 := hc5.out
  have hc1 : -5000 ≤ c5 := by omega
  have hc2 : c5 ≤ 5000 := by omega
  rw [hc5.out] at hkind
  clear hT hs hm1 hm2 hG
  have HREST : Hid (∀ (w1 : World) (z : Nat), Good w1 z → Below w.heap.size w w1 → ∀ W, Below (w1.heap.size + 1) (w1.alloc (.cells #[.int .i64 kind, .bool ng, .pointer (some ⟨z, 0, none⟩), .int .i64 E'] 69)) W → (W.cell? ⟨w1.heap.size, 0, none⟩ = some (.int .i64 kind) ∧ W.cell? ⟨w1.heap.size, 1, none⟩ = some (.bool ng) ∧ W.cell? ⟨w1.heap.size, 2, none⟩ = some (.pointer (some ⟨z, 0, none⟩)) ∧ W.cell? ⟨w1.heap.size, 3, none⟩ = some (.int .i64 E')) ∧ Good W z ∧ Below w.heap.size w W) := by
    intro w1 z g1 b1 W hW
    have hb : Below w1.heap.size w1 W := (al_below w1 _).trans (hW.mono (Nat.le_succ _))
    exact ⟨fcells hW, HGD.out _ _ _ g1 hb, bl_then b1 hb⟩
  rcases hkind with ⟨rfl, hE⟩ | ⟨hkn, rfl⟩
  · go_enter Tryd.func34, Tryd.ntmps34
    go_wp2_with fail
    refine (Known_any mode _).mono ?_
    rintro r w0 ⟨rfl, rfl⟩
    rw [hk]
    clear hk
    go_wp2_with fail
    refine (Double_any _).mono ?_
    rintro r w2 ⟨rfl, b2⟩
    have B2 := hid b2
    clear b2
    go_wp2_with fail
    refine (HT.out _).mono ?_
    rintro r w1 ⟨z, rfl, g1, b1⟩
    have HR := hid (HREST.out w1 z g1 (bl_then B2.out b1))
    have hE' : E + c5 = E' := hE.symm
    clear g1 b1 HREST hE
    have HK : Hid (∀ w', Hid (Below (w1.heap.size + 1) (w1.alloc (.cells #[.int .i64 0, .bool ng, .pointer (some ⟨z, 0, none⟩), .int .i64 E'] 69)) w') → (w'.cell? ⟨w1.heap.size, 0, none⟩ = some (.int .i64 0) ∧ w'.cell? ⟨w1.heap.size, 1, none⟩ = some (.bool ng) ∧ w'.cell? ⟨w1.heap.size, 2, none⟩ = some (.pointer (some ⟨z, 0, none⟩)) ∧ w'.cell? ⟨w1.heap.size, 3, none⟩ = some (.int .i64 E')) ∧ Hid (Below (w1.heap.size + 1) (w1.alloc (.cells #[.int .i64 0, .bool ng, .pointer (some ⟨z, 0, none⟩), .int .i64 E'] 69)) w')) := fun w' h => ⟨fcells h.out, h⟩
    have HQ : Hid (Below (w1.heap.size + 1) (w1.alloc (.cells #[.int .i64 0, .bool ng, .pointer (some ⟨z, 0, none⟩), .int .i64 E'] 69)) (w1.alloc (.cells #[.int .i64 0, .bool ng, .pointer (some ⟨z, 0, none⟩), .int .i64 E'] 69)).drew) := (Below.refl _ _).drew
    have HD : Hid (∀ W, Hid (Below (w1.heap.size + 1) (w1.alloc (.cells #[.int .i64 0, .bool ng, .pointer (some ⟨z, 0, none⟩), .int .i64 E'] 69)) W) → Calls Tryd.prog 73 #[] W fun e w' => e = .returned (.agg #[.int .i64 53, .int .i64 (-1022), .int .i64 1023, .int .i64 11]) ∧ Hid (Below (w1.heap.size + 1) (w1.alloc (.cells #[.int .i64 0, .bool ng, .pointer (some ⟨z, 0, none⟩), .int .i64 E'] 69)) w')) := fun W h => by
      refine (Double_any W).mono ?_
      rintro r w' ⟨rfl, hb⟩
      exact ⟨rfl, fC h.out hb (by have := h.out.size; simp at this; omega)⟩
    have HS2 : Hid (∀ W, Hid (Below (w1.heap.size + 1) (w1.alloc (.cells #[.int .i64 0, .bool ng, .pointer (some ⟨z, 0, none⟩), .int .i64 E'] 69)) W) → Calls Tryd.prog 72 #[.agg #[.int .i64 53, .int .i64 (-1022), .int .i64 1023, .int .i64 11], .agg #[.int .i64 0, .bool ng, .pointer (some ⟨z, 0, none⟩), .int .i64 E'], .int .i64 mode] W fun r w' => r = .returned (.tuple #[.int .u64 V, .int .i64 G]) ∧ Hid (Below (w1.heap.size + 1) (w1.alloc (.cells #[.int .i64 0, .bool ng, .pointer (some ⟨z, 0, none⟩), .int .i64 E'] 69)) w')) := fun W h => by
      refine (HS.out W z (HR.out W h.out).2.1).mono ?_
      rintro r w' ⟨rfl, hb⟩
      exact ⟨rfl, fC h.out hb (by have := h.out.size; simp at this; omega)⟩
    go_wp2_with fail
    go_region_held3 (fun w' => (w'.cell? ⟨w1.heap.size, 0, none⟩ = some (.int .i64 0) ∧ w'.cell? ⟨w1.heap.size, 1, none⟩ = some (.bool ng) ∧ w'.cell? ⟨w1.heap.size, 2, none⟩ = some (.pointer (some ⟨z, 0, none⟩)) ∧ w'.cell? ⟨w1.heap.size, 3, none⟩ = some (.int .i64 E')) ∧ Hid (Below (w1.heap.size + 1) (w1.alloc (.cells #[.int .i64 0, .bool ng, .pointer (some ⟨z, 0, none⟩), .int .i64 E'] 69)) w')) (exact HK.out _ (by first | assumption | exact HQ))
      (first
        | (go_at_call 73; refine (HD.out _ (And.right (by assumption))).mono ?_; rintro r w3 ⟨rfl, HD3⟩)
        | (go_at_call 72; refine (HS2.out _ (And.right (by assumption))).mono ?_; rintro r w4 ⟨rfl, HE4⟩))
    all_goals go_wp2
    all_goals go_ret3
    all_goals exact ⟨rfl, (HR.out _ HE4.out).2.2⟩
  · have hkb : (kind == 0) = false := by simpa using hkn
    clear hkn
    go_enter Tryd.func34, Tryd.ntmps34
    go_wp2_with fail
    refine (Known_any mode _).mono ?_
    rintro r w0 ⟨rfl, rfl⟩
    rw [hk]
    clear hk
    go_wp2_with fail
    refine (Double_any _).mono ?_
    rintro r w2 ⟨rfl, b2⟩
    have B2 := hid b2
    clear b2
    go_wp2_with fail
    refine (HT.out _).mono ?_
    rintro r w1 ⟨z, rfl, g1, b1⟩
    have HR := hid (HREST.out w1 z g1 (bl_then B2.out b1))
    clear g1 b1 HREST
    have HK : Hid (∀ w', Hid (Below (w1.heap.size + 1) (w1.alloc (.cells #[.int .i64 kind, .bool ng, .pointer (some ⟨z, 0, none⟩), .int .i64 E'] 69)) w') → (w'.cell? ⟨w1.heap.size, 0, none⟩ = some (.int .i64 kind) ∧ w'.cell? ⟨w1.heap.size, 1, none⟩ = some (.bool ng) ∧ w'.cell? ⟨w1.heap.size, 2, none⟩ = some (.pointer (some ⟨z, 0, none⟩)) ∧ w'.cell? ⟨w1.heap.size, 3, none⟩ = some (.int .i64 E')) ∧ Hid (Below (w1.heap.size + 1) (w1.alloc (.cells #[.int .i64 kind, .bool ng, .pointer (some ⟨z, 0, none⟩), .int .i64 E'] 69)) w')) := fun w' h => ⟨fcells h.out, h⟩
    have HQ : Hid (Below (w1.heap.size + 1) (w1.alloc (.cells #[.int .i64 kind, .bool ng, .pointer (some ⟨z, 0, none⟩), .int .i64 E'] 69)) (w1.alloc (.cells #[.int .i64 kind, .bool ng, .pointer (some ⟨z, 0, none⟩), .int .i64 E'] 69)).drew) := (Below.refl _ _).drew
    have HD : Hid (∀ W, Hid (Below (w1.heap.size + 1) (w1.alloc (.cells #[.int .i64 kind, .bool ng, .pointer (some ⟨z, 0, none⟩), .int .i64 E'] 69)) W) → Calls Tryd.prog 73 #[] W fun e w' => e = .returned (.agg #[.int .i64 53, .int .i64 (-1022), .int .i64 1023, .int .i64 11]) ∧ Hid (Below (w1.heap.size + 1) (w1.alloc (.cells #[.int .i64 kind, .bool ng, .pointer (some ⟨z, 0, none⟩), .int .i64 E'] 69)) w')) := fun W h => by
      refine (Double_any W).mono ?_
      rintro r w' ⟨rfl, hb⟩
      exact ⟨rfl, fC h.out hb (by have := h.out.size; simp at this; omega)⟩
    have HS2 : Hid (∀ W, Hid (Below (w1.heap.size + 1) (w1.alloc (.cells #[.int .i64 kind, .bool ng, .pointer (some ⟨z, 0, none⟩), .int .i64 E'] 69)) W) → Calls Tryd.prog 72 #[.agg #[.int .i64 53, .int .i64 (-1022), .int .i64 1023, .int .i64 11], .agg #[.int .i64 kind, .bool ng, .pointer (some ⟨z, 0, none⟩), .int .i64 E'], .int .i64 mode] W fun r w' => r = .returned (.tuple #[.int .u64 V, .int .i64 G]) ∧ Hid (Below (w1.heap.size + 1) (w1.alloc (.cells #[.int .i64 kind, .bool ng, .pointer (some ⟨z, 0, none⟩), .int .i64 E'] 69)) w')) := fun W h => by
      refine (HS.out W z (HR.out W h.out).2.1).mono ?_
      rintro r w' ⟨rfl, hb⟩
      exact ⟨rfl, fC h.out hb (by have := h.out.size; simp at this; omega)⟩
    go_wp2_with fail
    go_region_held3 (fun w' => (w'.cell? ⟨w1.heap.size, 0, none⟩ = some (.int .i64 kind) ∧ w'.cell? ⟨w1.heap.size, 1, none⟩ = some (.bool ng) ∧ w'.cell? ⟨w1.heap.size, 2, none⟩ = some (.pointer (some ⟨z, 0, none⟩)) ∧ w'.cell? ⟨w1.heap.size, 3, none⟩ = some (.int .i64 E')) ∧ Hid (Below (w1.heap.size + 1) (w1.alloc (.cells #[.int .i64 kind, .bool ng, .pointer (some ⟨z, 0, none⟩), .int .i64 E'] 69)) w')) (exact HK.out _ (by first | assumption | exact HQ))
      (first
        | (go_at_call 73; refine (HD.out _ (And.right (by assumption))).mono ?_; rintro r w3 ⟨rfl, HD3⟩)
        | (go_at_call 72; refine (HS2.out _ (And.right (by assumption))).mono ?_; rintro r w4 ⟨rfl, HE4⟩))
    all_goals go_wp2
    all_goals go_ret3
    all_goals exact ⟨rfl, (HR.out _ HE4.out).2.2⟩
end Go.Proofs.YtofmdeidgopneaaDoor

namespace Go.Proofs.YtofmdeidgopneaaDoor
open Go.ChangeShapes Go.WideShapes Go.ChangeAt Go.RowKit

theorem rScale_any (x : Nat) (k mode : Int) (w : World) (hx : x < 18446744073709551616) (m1 : 0 ≤ mode) (m2 : mode ≤ 4) :
    Calls Tryd.prog 34 #[.int .u64 x, .int .i64 k, .int .i64 mode] w fun r w' => r = .returned (.tuple #[.int .u64 (scaleOf x k mode), .int .i64 (scaleFl x k mode), .int .i64 0]) ∧ Below w.heap.size w w' := by
  unfold scaleOf scaleFl
  have hsx := sign_of x hx
  have hc1 : -5000 ≤ clamp5 k := by unfold clamp5; omega
  have hc2 : clamp5 k ≤ 5000 := by unfold clamp5; omega
  by_cases hn : 9218868437227405312 < x % 9223372036854775808
  · rw [if_pos hn, if_pos (Or.inl (Nat.le_of_lt hn))]
    refine rScale_core (fun _ _ => True) x k mode 2 0 0 false 9221120237041090561 0 w m1 m2 (by decide) (by decide) (Or.inr ⟨by decide, rfl⟩) (fun _ _ _ _ _ => trivial) (fun W => ?_) (fun W z _ => same64_nan false _ 0 mode W)
    refine (Take64_nan x W hx (by omega) (by omega)).mono ?_
    rintro r w' ⟨z, hr, hb⟩
    exact ⟨z, hr, trivial, hb⟩
  · rw [if_neg hn]
    by_cases hi : x % 9223372036854775808 = 9218868437227405312
    · rw [if_pos (Or.inl hi), if_pos (Or.inl (Nat.le_of_eq hi.symm))]
      have hV := fun (W : World) (z : Nat) => same64_inf (decide (9223372036854775808 ≤ x)) (some ⟨z, 0, none⟩) (-1074) mode W
      rw [← hi, ← hsx] at hV
      refine rScale_core (fun _ _ => True) x k mode 1 (-1074) (-1074) (decide (9223372036854775808 ≤ x)) x 0 w m1 m2 (by decide) (by decide) (Or.inr ⟨by decide, rfl⟩) (fun _ _ _ _ _ => trivial) (fun W => ?_) (fun W z _ => hV W z)
      refine (Take64_inf x W hx (by omega) (by omega)).mono ?_
      rintro r w' ⟨z, hr, hb⟩
      exact ⟨z, hr, trivial, hb⟩
    · have hf : x % 9223372036854775808 < 9218868437227405312 := by omega
      have hz := tM64_zero x hf
      obtain ⟨e1, e2⟩ := tE64_bd x
      have hsame := fun (W : World) (z : Nat) (h : NumAt W z (tM64 x : Int) 2) => same64_fin (decide (9223372036854775808 ≤ x)) z (tM64 x) 2 (tE64 x + clamp5 k) mode W h (by decide) (by omega) (by omega)
      by_cases h0 : x % 9223372036854775808 = 0
      · rw [if_pos (Or.inr h0), if_pos (Or.inr h0)]
        rw [if_pos (hz.2 h0), if_pos (hz.2 h0)] at hsame
        rw [h0] at hsx
        rw [← hsx] at hsame
        exact rScale_core (fun W z => NumAt W z (tM64 x : Int) 2) x k mode 0 (tE64 x) _ (decide (9223372036854775808 ≤ x)) x 0 w m1 m2 (by omega) (by omega) (Or.inl ⟨rfl, rfl⟩) (fun _ _ _ h hb => h.below hb) (fun W => Take64_fin x W hx hf) hsame
      · rw [if_neg (by omega), if_neg (by omega)]
        have hm0 : tM64 x ≠ 0 := fun c => h0 (hz.1 c)
        rw [if_neg hm0, if_neg hm0, docR64_is _ _ _ _ hm0 m1 m2] at hsame
        obtain ⟨j, k1, k2, k3⟩ := take64 x hf h0
        obtain ⟨v1, v2, v3, v4, v5⟩ := parts_val x hf
        obtain ⟨p1, p2, p3, p4, p5, p6⟩ := v5 (fun c => h0 (v4.1 c))
        have ee : tE64 x + clamp5 k = pExp x + clamp5 k - (j : Int) := by omega
        obtain ⟨_, _, r3, _⟩ := rnd_scale 53 (-1022) 1023 (pMant x) j (pExp x + clamp5 k) mode (decide (9223372036854775808 ≤ x)) k3
        obtain ⟨c1, c2⟩ := clamp_same (pMant x) (pExp x) k mode (decide (9223372036854775808 ≤ x)) k3 p2 p5
        have eM : rMag 53 (-1022) 1023 (tM64 x) (tE64 x + clamp5 k) mode (decide (9223372036854775808 ≤ x)) = rMag 53 (-1022) 1023 (pMant x) (pExp x + clampK k) mode (decide (9223372036854775808 ≤ x)) := by
          rw [ee, k1, rMag_scale 53 (-1022) 1023 _ _ _ _ _ k3, c1]
        have eF : rFlag 53 (-1022) 1023 (tM64 x) (tE64 x + clamp5 k) mode (decide (9223372036854775808 ≤ x)) = rFlag 53 (-1022) 1023 (pMant x) (pExp x + clampK k) mode (decide (9223372036854775808 ≤ x)) := by
          rw [ee, k1, r3, c2]
        rw [eM, eF] at hsame
        exact rScale_core (fun W z => NumAt W z (tM64 x : Int) 2) x k mode 0 (tE64 x) _ (decide (9223372036854775808 ≤ x)) _ _ w m1 m2 (by omega) (by omega) (Or.inl ⟨rfl, rfl⟩) (fun _ _ _ h hb => h.below hb) (fun W => Take64_fin x W hx hf) hsame
set_option maxHeartbeats 1000000 in
theorem rScale_bad (x : Nat) (k mode : Int) (w : World) (hm : ¬ (0 ≤ mode ∧ mode ≤ 4)) :
    Calls Tryd.prog 34 #[.int .u64 x, .int .i64 k, .int .i64 mode] w fun r w' => r = .returned (.tuple #[.int .u64 0, .int .i64 0, .int .i64 20]) ∧ Below w.heap.size w w' := by
  have hk : decide (0 ≤ mode ∧ mode ≤ 4) = false := decide_eq_false hm
  clear hm
  go_enter Tryd.func34, Tryd.ntmps34
  go_wp2_with fail
  refine (Known_any mode _).mono ?_
  rintro r w1 ⟨rfl, rfl⟩
  rw [hk]
  clear hk
  go_wp2
  go_ret3
  exact ⟨rfl, Below.refl _ _⟩
set_option maxHeartbeats 400000 in
theorem Scale_bad (x : Nat) (k mode : Int) (w : World) (hm : ¬ (0 ≤ mode ∧ mode ≤ 4)) :
    Calls Tryd.prog 33 #[.float .f64 x, .int .i64 k, .int .i64 mode] w fun e w' => e = .returned (.tuple #[.float .f64 0, .int .i64 0, .int .i64 20]) ∧ Below w.heap.size w w' := by
  have hk : decide (0 ≤ mode ∧ mode ≤ 4) = false := decide_eq_false hm
  go_enter Tryd.func33, Tryd.ntmps33
  go_wp2_with fail
  refine (known_any mode _).mono ?_
  rintro e w1 ⟨rfl, rfl⟩
  rw [hk]
  clear hk hm
  go_wp2
  go_ret3
  exact ⟨rfl, Below.refl _ _⟩
set_option maxHeartbeats 400000 in
theorem f3_any (x : Nat) (w : World) :
    Calls Tryd.prog 23 #[.int .u64 x] w fun e w' => e = .returned (.float .f64 x) ∧ w' = w := by
  have h2 := f64from
  go_enter Tryd.func23, Tryd.ntmps23
  go_wp2
  go_ret
  exact ⟨rfl, rfl⟩
set_option maxHeartbeats 400000 in
theorem is64_self (a : Nat) (w : World) :
    Calls Tryd.prog 26 #[.float .f64 a, .int .u64 a] w fun e w' => e = .returned (.bool true) ∧ w' = w := by
  have h2 := f64bits
  go_enter Tryd.func26, Tryd.ntmps26
  go_wp2
  go_ret
  exact ⟨by simp, rfl⟩
set_option maxHeartbeats 400000 in
theorem told64_self (a : Nat) (k e : Int) (w : World) :
    Calls Tryd.prog 35 #[.float .f64 a, .int .i64 k, .int .i64 e, .int .u64 a, .int .i64 k, .int .i64 e] w fun r w' => r = .returned (.bool true) ∧ w' = w := by
  go_enter Tryd.func35, Tryd.ntmps35
  go_wp2_with fail
  refine (is64_self a _).mono ?_
  rintro r w1 ⟨rfl, rfl⟩
  go_wp2
  go_ret
  exact ⟨by simp, rfl⟩
set_option maxHeartbeats 1000000 in
theorem scales_core (x A : Nat) (k mode K E : Int) (w : World) (hT : Tab w) (hs : 1 < w.heap.size)
    (hN : ∀ w, Tab w → 1 < w.heap.size → Calls Tryd.prog 33 #[.float .f64 x, .int .i64 k, .int .i64 mode] w fun r w' => r = .returned (.tuple #[.float .f64 A, .int .i64 K, .int .i64 E]) ∧ Below w.heap.size w w')
    (hR : ∀ w, Calls Tryd.prog 34 #[.int .u64 x, .int .i64 k, .int .i64 mode] w fun r w' => r = .returned (.tuple #[.int .u64 A, .int .i64 K, .int .i64 E]) ∧ Below w.heap.size w w') :
    Calls Tryd.prog 5 #[.int .u64 x, .int .i64 k, .int .i64 mode] w fun r w' => r = .returned (.bool true) ∧ Below w.heap.size w w' := by
  have HN := hid hN
  have HR := hid hR
  clear hN hR
  go_enter Tryd.func5, Tryd.ntmps5
  go_wp2_with fail
  refine (f3_any x _).mono ?_
  rintro r w1 ⟨rfl, rfl⟩
  go_wp2_with fail
  refine (HN.out _ hT hs).mono ?_
  rintro r w2 ⟨rfl, b2⟩
  have B2 := hid b2
  clear b2
  go_wp2_with fail
  refine (HR.out _).mono ?_
  rintro r w3 ⟨rfl, b3⟩
  have B3 := hid (bl_then B2.out b3)
  clear b3
  go_wp2_with fail
  refine (told64_self A K E _).mono ?_
  rintro r w4 ⟨rfl, rfl⟩
  go_wp2_with fail
  refine (awake2_any _ (hT.below hs B3.out) (Nat.lt_of_lt_of_le hs B3.out.size)).mono ?_
  rintro r w12 ⟨rfl, b12⟩
  have B12 := hid (bl_then B3.out b12)
  clear b12
  go_wp2
  go_ret
  exact ⟨rfl, B12.out⟩
theorem scales_law (x : Nat) (k mode : Int) (w : World) (hx : x < 18446744073709551616) (_hk : -9223372036854775808 ≤ k ∧ k ≤ 9223372036854775807) (_hm : -9223372036854775808 ≤ mode ∧ mode ≤ 9223372036854775807) (hT : Tab w) (hs : 1 < w.heap.size) :
    Calls Tryd.prog 5 #[.int .u64 x, .int .i64 k, .int .i64 mode] w fun r w' => r = .returned (.bool true) ∧ Below w.heap.size w w' := by
  by_cases hm : 0 ≤ mode ∧ mode ≤ 4
  · exact scales_core x _ k mode _ _ w hT hs (fun w hT hs => Scale_any x k mode w hx hm.1 hm.2 hT hs) (fun w => rScale_any x k mode w hx hm.1 hm.2)
  · exact scales_core x 0 k mode 0 20 w hT hs (fun w _ _ => Scale_bad x k mode w hm) (fun w => rScale_bad x k mode w hm)

set_option maxRecDepth 100000 in
theorem convertScales_lifted (os : Os) (started : os.Started) (H : Type) (enc : TypeId × Value → H) :
    ReturnsInHanded {} Tryd.checked os 5 .any (fun w args => (Rows.convertScalesSpec.pre enc Tryd.prog Tryd.f5 [] false w args ∧ laidMetH Tryd.prog [("math/bits.deBruijn64tab", Rows.laid_math_bits_deBruijn64tab)] w) ∧ sizedMet enc Tryd.prog Tryd.f5 (OpenSpec.ofChange Rows.convertScalesSpec) false w args)
      (Rows.convertScalesSpec.post enc Tryd.prog Tryd.f5 false true false false) := by
  refine returnsInHanded_of_change_and (C := Tryd.checked) (X := fun w _ => laidMetH Tryd.prog [("math/bits.deBruijn64tab", Rows.laid_math_bits_deBruijn64tab)] w) (fun _ _ _ hh h => h.of_heap hh) own started (by kernel_rfl) Tryd.func5
    (ChangeSpec.witness_shaped (enc := enc) (C := Tryd.checked) (os := os) (X := fun w _ => laidMetH Tryd.prog [("math/bits.deBruijn64tab", Rows.laid_math_bits_deBruijn64tab)] w) false (World.doorLaid Tryd.prog 400 os) #[.int .u64 0, .int .i64 0, .int .i64 0] 8 rfl (World.shaped_of_RefB (by kernel_rfl) (by kernel_rfl)) (by kernel_rfl) (by kernel_rfl) (by kernel_rfl) (door_met os _)) ?_
  intro W base args ds gs before hval0 hW _ _ hL _
  have hval : ∀ (j : Nat) t v, Tryd.f5.params[j]? = some t → args[j]? = some v → Value.okWide Tryd.prog W .any base t v := hval0
  have hW' := hW
  obtain ⟨p, q, hA0, hV, rfl, hfz, hnd⟩ := hW
  have hA : DataW.TrodAll enc Tryd.prog W 0 (fun _ => true) true Tryd.f5.params.toList args.toList ds p := hA0
  rw [Tryd.params5] at hA hval
  obtain ⟨v0, vs0, d0, ds0, p0, q0, hargs, rfl, rfl, h0, r0⟩ := trodAll_cons hA
  obtain ⟨v1, vs1, d1, ds1, p1, q1, rfl, rfl, rfl, h1, r1⟩ := trodAll_cons r0
  obtain ⟨v2, vs2, d2, ds2, p2, q2, rfl, rfl, rfl, h2, r2⟩ := trodAll_cons r1
  obtain ⟨rfl, rfl, rfl⟩ := trodAll_nil r2
  obtain rfl : args = #[v0, v1, v2] := by cases args; simp_all
  obtain ⟨rfl, rfl⟩ := trodVars_none hV
  obtain ⟨a0, rfl, rfl, rfl, w0⟩ := open_int Tryd.underlying22 (hval 0 22 v0 rfl rfl) h0
  obtain ⟨n0, rfl⟩ := Int.eq_ofNat_of_zero_le (bounds_u64 w0).1
  have l0 : n0 < 18446744073709551616 := by have := (bounds_u64 w0).2; omega
  obtain ⟨a1, rfl, rfl, rfl, w1⟩ := open_int Tryd.underlying3 (hval 1 3 v1 rfl rfl) h1
  obtain ⟨a2, rfl, rfl, rfl, w2⟩ := open_int Tryd.underlying3 (hval 2 3 v2 rfl rfl) h2
  obtain ⟨hT, hs⟩ := tab_of_laid hL
  clear hA0 hval0
  simp only [List.append_nil] at hW'
  refine (scales_law n0 a1 a2 W l0 (bounds_i64 w1) (bounds_i64 w2) hT hs).mono fun e W' ⟨he, bel⟩ => ?_
  subst he
  exact ⟨_, rfl, _, _, _, [], [], [], hW', trodAll_mk1 (shut_bool Tryd.underlying4 _), (trodAll_cons_mk (shut_int Tryd.underlying22 w0) (trodAll_cons_mk (shut_int Tryd.underlying3 w1) (trodAll_cons_mk (shut_int Tryd.underlying3 w2) trodAll_mk0))), rfl, bel.frame _, fun h => by cases h⟩

theorem convertScales_row : Rows.ConvertScalesSaid :=
  OpenClaim.holds_of_wide 5 Tryd.f5 rfl rfl rfl rfl rfl rfl rfl ⟨rfl, rfl, rfl, rfl, rfl⟩ rfl rfl rfl rfl rfl (by kernel_rfl) Tryd.func5 (by kernel_rfl)
    (of_decide_eq_true (by kernel_rfl)) (by unfold Func.isWrapper; first | (rw [if_pos (by decide +kernel)]; kernel_rfl) | (rw [if_neg (by decide +kernel)]; exact ⟨rfl, rfl⟩))
    (fun os started H enc _ => convertScales_lifted os started H enc)

theorem convertScales_card : Rows.ConvertScalesCardSaid :=
  Claim7.holds_tied_plain_at .later [] [.data] true (true, "2cce507ffb11589c3182987d590e441a17eb166f9f40e6755efd4d853d042f47") false
    convertScales_row (fun _ h => by cases h) (by kernel_rfl) (fun _ h => by cases h) convertScales_row_tie rfl ⟨rfl, rfl⟩ (by kernel_rfl) rfl
    (fun f fn hf hfn => by
      obtain rfl : f = 5 := Option.some.inj ((show Tryd.prog.funcNamed "binnacle/binnaclelaw02.ConvertScales" = some 5 by kernel_rfl).symm.trans hf) |>.symm
      obtain rfl : fn = Tryd.f5 := (Option.some.inj (Tryd.func5.symm.trans hfn)).symm
      exact ⟨by kernel_rfl, fun j t ht => by
        rw [Tryd.params5] at ht
        have hm : t ∈ [22, 3, 3] := by simpa using Array.mem_of_getElem? ht
        have hall : ([22, 3, 3].all fun u => !Tryd.prog.wantsStandIn u) = true := by kernel_rfl
        exact (show Tryd.prog.wantsStandIn t = false by simpa using List.all_eq_true.1 hall t hm)⟩)
    (by kernel_rfl)
#print axioms convertScales_card
end Go.Proofs.YtofmdeidgopneaaDoor
