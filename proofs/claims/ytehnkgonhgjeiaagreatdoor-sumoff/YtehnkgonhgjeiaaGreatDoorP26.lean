
/- What math/bits.TrailingZeros32 does, and dyad's within and May. -/
import Derived.Test.YtehnkgonhgjeiaaGreatDoorP18
import Derived.Test.YtehnkgonhgjeiaaGreatDoorP21
import Derived.Test.YtehnkgonhgjeiaaGreatDoorP24
namespace Go.Proofs.YtehnkgonhgjeiaaGreatDoor
open Go.RowKit Go.IntWalk

/-- The library's table for words of 32 bits stands in its variable. -/
def Tab32 (w : World) : Prop := ∀ j, j < 32 → w.cell? ⟨2, j, none⟩ = some (.int .u8 (Lib.deBruijn32tab.getD j 0))
theorem Tab32.below {w w' : World} (h : Tab32 w) (hs : 2 < w.heap.size) (hb : Below w.heap.size w w') : Tab32 w' := fun j hj => by rw [hb.cell (p := ⟨2, j, none⟩) hs]; exact h j hj
theorem tz32_key (x a : Nat) (hx : x < 4294967296) (hx0 : x ≠ 0) (hlow : x &&& (4294967296 - x) = a) :
    IntKind.u32.wrap (bits BinOp.and IntKind.u32 (x : Int) (IntKind.u32.wrap (-(x : Int))) * 125613361) / 134217728 = ((a * 125613361 % 4294967296 / 134217728 : Nat) : Int) := by
  have e1 : IntKind.u32.wrap (-(x : Int)) = ((4294967296 - x : Nat) : Int) := by rw [IntKind.wrap_u32]; omega
  rw [e1, u32_and_nat x _ hx (by omega), hlow, IntKind.wrap_u32]
  omega
set_option maxHeartbeats 400000 in
theorem tz32_core (x k idx : Nat) (w : World) (hx0 : ((x : Int) == 0) = false)
    (key : IntKind.u32.wrap (bits BinOp.and IntKind.u32 (x : Int) (IntKind.u32.wrap (-(x : Int))) * 125613361) / 134217728 = (idx : Int))
    (hi : idx < 32) (hk : k < 32) (hcell : w.cell? ⟨2, idx, none⟩ = some (.int .u8 k)) :
    Calls Tryz.prog 147 #[.int .u32 x] w fun e w' => e = .returned (.int .i64 k) ∧ w' = w := by
  have key2 := key
  simp only [IntKind.wrap_u32] at key2
  go_enter Tryz.func147, Tryz.ntmps147
  go_wp2_with (first | simp only [key] | simp only [key2])
  go_ret
  exact ⟨rfl, rfl⟩
def tz32Of (m : Nat) : Nat := Lib.ctz 32 m
theorem tz32_spec (m : Nat) (h0 : m ≠ 0) (h : m < 4294967296) : tz32Of m < 32 ∧ ∃ k, m = 2 ^ tz32Of m * (2 * k + 1) := by
  obtain ⟨k, hk, hl⟩ := Lib.ctzFrom_spec 32 m (by omega) h
  have e : tz32Of m = Lib.ctzFrom 32 m := by simp [tz32Of, Lib.ctz, h0]
  rw [e]
  exact ⟨hl, k, hk⟩
theorem tz32_any (x : Nat) (w : World) (hx : x < 4294967296) (hx0 : x ≠ 0) (hT : Tab32 w) :
    Calls Tryz.prog 147 #[.int .u32 x] w fun e w' => e = .returned (.int .i64 (tz32Of x)) ∧ w' = w := by
  obtain ⟨hlow, hk⟩ := Lib.lowest_bit 32 x hx0 hx
  obtain ⟨hi, htab⟩ := Lib.deBruijn32_at _ hk
  have hcell := hT _ hi
  rw [htab] at hcell
  exact tz32_core x (Lib.ctz 32 x) _ w (by simpa using hx0) (tz32_key x _ hx hx0 hlow) hi hk hcell
set_option maxHeartbeats 400000 in
theorem within_any (e : Int) (w : World) (h1 : -100000 ≤ e) (h2 : e ≤ 100000) :
    Calls Tryz.prog 149 #[.int .i64 e] w fun r w' => r = .returned (.bool true) ∧ w' = w := by
  go_enter Tryz.func149, Tryz.ntmps149
  go_wp2
  go_ret
  exact ⟨rfl, rfl⟩
/-- A dyad that may be. -/
def DyMay (neg : Bool) (L : List Nat) (e : Int) : Prop := (L = [] ∧ neg = false ∧ e = 0) ∨ (L ≠ [] ∧ natL L % 2 = 1 ∧ CanL L ∧ L.length ≤ 2048 ∧ -100000 ≤ e ∧ e ≤ 100000)
set_option maxHeartbeats 1000000 in
theorem May_yes (neg : Bool) (L : List Nat) (a : Option Addr) (cap : Nat) (e : Int) (w : World) (hm : MagAt w a L) (h : DyMay neg L e) :
    Calls Tryz.prog 113 #[.agg #[.bool neg, .slice a L.length cap, .int .i64 e]] w fun r w' => r = .returned (.bool true) ∧ Below w.heap.size w w' := by
  rcases h with ⟨rfl, rfl, rfl⟩ | ⟨h0, hodd, hcan, hlen, he1, he2⟩
  · show Calls Tryz.prog 113 #[.agg #[.bool false, .slice a 0 cap, .int .i64 0]] w _
    clear hm
    go_enter Tryz.func113, Tryz.ntmps113
    go_wp2
    go_ret
    exact ⟨rfl, (Below.refl _ _).alloc (Nat.le_refl _) _⟩
  · have hl0 : L.length ≠ 0 := fun c => h0 (List.length_eq_zero_iff.1 c)
    obtain ⟨b, off, rfl, hb, hc0⟩ := hm 0 (by omega)
    obtain ⟨b', off', e', hb', hc1⟩ := hm (L.length - 1) (by omega)
    cases e'
    have hx := hcan h0
    have hy := natL_mod L
    rw [hodd] at hy
    obtain ⟨n, hn⟩ : ∃ n, Hid (L.length = n) := ⟨_, rfl⟩
    rw [hn.out] at hlen hl0 hc1 hx ⊢
    obtain ⟨x, hx'⟩ : ∃ x, Hid (L.getD (n - 1) 0 = x) := ⟨_, rfl⟩
    obtain ⟨y, hy'⟩ : ∃ y, Hid (L.getD 0 0 = y) := ⟨_, rfl⟩
    rw [hx'.out] at hc1 hx
    rw [hy'.out, Nat.add_zero] at hc0
    rw [hy'.out] at hy
    obtain ⟨k, hk⟩ : ∃ k, Hid (n = k + 1) := ⟨n - 1, show n = n - 1 + 1 by omega⟩
    have hkk : n - 1 = k := by have := hk.out; omega
    rw [hkk] at hc1
    have hk1 : IntKind.i64.wrap ((n : Int) - 1) = (k : Int) := by have := hk.out; rw [IntWalk.i64_in _ (by omega)]; omega
    have hk2 : (n : Int) - 1 = (k : Int) := by have := hk.out; omega
    have hkn : ((n : Int) == 0) = false := by simp; omega
    have hkb : (k : Int) < (n : Int) := by omega
    have hxb : ((x : Int) == 0) = false := by simpa using hx
    have hyb : (y : Int) % 2 = 1 := by omega
    have hlI : (n : Int) ≤ 2048 := by omega
    have h0n : (0 : Int) < (n : Int) := by omega
    clear hkk
    have hbw : b < w.heap.size := hb
    have HW := hid (fun (W : World) => within_any e W he1 he2)
    clear hm hodd hcan hy hlen hl0 h0 hb hb' he1 he2 hx' hy' hn hk
    go_enter Tryz.func113, Tryz.ntmps113
    go_wp2_with fail
    refine (HW.out _).mono ?_
    rintro r w1 ⟨rfl, rfl⟩
    go_wp2
    go_ret
    exact ⟨ret_bool (by simpa using hx), (Below.refl _ _).alloc (Nat.le_refl _) _⟩
end Go.Proofs.YtehnkgonhgjeiaaGreatDoor

namespace Go.Proofs.YtehnkgonhgjeiaaGreatDoor
open Go.RowKit Go.IntWalk

theorem natL_dropz (L : List Nat) : ∀ k, (∀ j, j < k → L.getD j 0 = 0) → natL L = 4294967296 ^ k * natL (L.drop k)
  | 0, _ => by rw [Nat.pow_zero, Nat.one_mul, List.drop_zero]
  | k + 1, h => by
    rw [natL_dropz L k (fun j hj => h j (by omega)), natL_drop L k, h k (by omega), Nat.zero_add, ← Nat.mul_assoc, ← Nat.pow_succ]
/-- A word's zeros at the end are the number's. -/
theorem natL_odd (D : List Nat) (hD : DigL D) (h0 : D.getD 0 0 ≠ 0) : ∃ m, natL D = 2 ^ tz32Of (D.getD 0 0) * m ∧ m % 2 = 1 ∧ natL D / 2 ^ tz32Of (D.getD 0 0) = m := by
  obtain ⟨hz, k, hk⟩ := tz32_spec (D.getD 0 0) h0 (hD.get 0)
  have e := natL_drop D 0
  rw [List.drop_zero] at e
  obtain ⟨z, hz'⟩ : ∃ z, tz32Of (D.getD 0 0) = z := ⟨_, rfl⟩
  rw [hz'] at hz hk ⊢
  obtain ⟨r, hr⟩ : ∃ r, natL (D.drop (0 + 1)) = r := ⟨_, rfl⟩
  rw [hr, hk] at e
  have h32 : (4294967296 : Nat) = 2 ^ z * (2 * 2 ^ (31 - z)) := by
    rw [show 2 * 2 ^ (31 - z) = 2 ^ (32 - z) by rw [show 32 - z = (31 - z) + 1 by omega, Nat.pow_succ, Nat.mul_comm], ← Nat.pow_add, show z + (32 - z) = 32 by omega]
  have e2 : natL D = 2 ^ z * (2 * k + 1 + 2 * (2 ^ (31 - z) * r)) := by
    have e3 : 4294967296 * r = 2 ^ z * (2 * (2 ^ (31 - z) * r)) := by
      conv => lhs; rw [h32]
      rw [Nat.mul_assoc, Nat.mul_assoc]
    rw [e, e3, ← Nat.mul_add]
  refine ⟨_, e2, by omega, ?_⟩
  rw [e2, Nat.mul_div_cancel_left _ (Nat.two_pow_pos z)]
/-- What is written of a number. -/
theorem written_val (neg : Bool) (L L' : List Nat) (k : Nat) (e : Int) (hD : DigL L) (hz : ∀ j, j < k → L.getD j 0 = 0) (h0 : L.getD k 0 ≠ 0) (d' : DigL L') (c' : CanL L') (hv : natL L' = natL (L.drop k) / 2 ^ tz32Of (L.getD k 0)) :
    natL L' % 2 = 1 ∧ DyV neg L' (e + 32 * k + tz32Of (L.getD k 0)) (intL neg L) e := by
  have hg : (L.drop k).getD 0 0 = L.getD k 0 := by simp [List.getD]
  obtain ⟨m, m1, m2, m3⟩ := natL_odd (L.drop k) (hD.drop k) (by rw [hg]; exact h0)
  rw [hg] at m1 m3
  rw [m3] at hv
  have e1 := natL_dropz L k hz
  obtain ⟨z, hz'⟩ : ∃ z, tz32Of (L.getD k 0) = z := ⟨_, rfl⟩
  rw [hz'] at m1 ⊢
  have e2 : natL L = natL L' * 2 ^ (32 * k + z) := by rw [e1, m1, hv, pow32, ← Nat.mul_assoc, ← Nat.pow_add, Nat.mul_comm]
  refine ⟨by rw [hv]; exact m2, d', c', Or.inr ⟨by rw [hv]; exact m2, 32 * k + z, ?_, by omega⟩⟩
  unfold intL
  have e3 : (natL L : Int) = (natL L' : Int) * 2 ^ (32 * k + z) := by rw [e2, Int.natCast_mul, Int.natCast_pow]; rfl
  cases neg
  · rw [if_neg (by decide), if_neg (by decide), e3]
  · rw [if_pos rfl, if_pos rfl, e3, Int.neg_mul]
theorem mag_drop {w : World} {b off : Nat} {L : List Nat} (h : MagAt w (some ⟨b, off, none⟩) L) (k : Nat) : MagAt w (some ⟨b, off + k, none⟩) (L.drop k) := by
  intro i hi
  rw [List.length_drop] at hi
  obtain ⟨b', off', e, hb, hc⟩ := h (k + i) (by omega)
  cases e
  refine ⟨b, off + k, rfl, hb, ?_⟩
  rw [Nat.add_assoc, hc]
  congr 3
  simp [List.getD]
/-- What is answered: a dyad that may be, in new memory, and no error. -/
def DyOut (z e : Int) (B : Nat) (r : Ending) (w' : World) : Prop := ∃ (neg : Bool) (L : List Nat) (a : Option Addr) (cap : Nat) (e' : Int), r = .returned (.tuple #[.agg #[.bool neg, .slice a L.length cap, .int .i64 e'], .int .i64 0]) ∧ L.length ≤ cap ∧ MagAt w' a L ∧ DyV neg L e' z e ∧ DyMay neg L e' ∧ (∀ p, a = some p → B ≤ p.block ∧ OwnRow w' p L.length)
set_option maxHeartbeats 400000 in
theorem written_nil (neg : Bool) (a : Option Addr) (cap : Nat) (e : Int) (w : World) :
    Calls Tryz.prog 111 #[.bool neg, .slice a 0 cap, .int .i64 e] w fun r w' => DyOut 0 e w.heap.size r w' ∧ Below w.heap.size w w' := by
  go_enter Tryz.func111, Tryz.ntmps111
  go_wp2
  refine bodyPost_ret (v := .tuple #[.agg #[.bool false, .slice none 0 0, .int .i64 0], .int .i64 0]) (by simp [results, Tryz.results111, go_sem]) rfl ⟨⟨false, [], none, 0, 0, rfl, Nat.le_refl _, fun _ hi => absurd hi (Nat.not_lt_zero _), ⟨fun _ hd => absurd hd List.not_mem_nil, fun h => absurd rfl h, Or.inl ⟨rfl, rfl, rfl, rfl⟩⟩, Or.inl ⟨rfl, rfl, rfl⟩, fun _ h => by cases h⟩, ?_⟩
  exact (Below.refl _ _).alloc (Nat.le_refl _) _
theorem slice_eq {b o o' n n' c c' : Nat} (h1 : o = o') (h2 : n = n') (h3 : c = c') : Value.slice (some ⟨b, o, none⟩) n c = .slice (some ⟨b, o', none⟩) n' c' := by rw [h1, h2, h3]
set_option maxRecDepth 4000 in
set_option maxHeartbeats 2000000 in
theorem written_some (neg : Bool) (L : List Nat) (b off cap : Nat) (e : Int) (w : World) (hm : MagAt w (some ⟨b, off, none⟩) L) (hD : DigL L) (hC : CanL L) (h0 : L ≠ []) (hcap : L.length ≤ cap) (hl : L.length ≤ 2048) (he1 : -100000 ≤ e) (he2 : e + 32 * L.length ≤ 99900) (hT : Tab32 w) (hs : 2 < w.heap.size) :
    Calls Tryz.prog 111 #[.bool neg, .slice (some ⟨b, off, none⟩) L.length cap, .int .i64 e] w fun r w' => DyOut (intL neg L) e w.heap.size r w' ∧ Below w.heap.size w w' := by
  have HM := hid hm
  have HD := hid hD
  have HC := hid hC
  have HT := hid hT
  have HS := hid hs
  have HNZ := hid (hC h0)
  have hl0 : L.length ≠ 0 := fun c => h0 (List.length_eq_zero_iff.1 c)
  have hbw : b < w.heap.size := by obtain ⟨b', off', e', hb, _⟩ := hm 0 (by omega); cases e'; exact hb
  have HCELL : Hid (∀ i, i < L.length → w.cell? ⟨b, off + i, none⟩ = some (.int .u32 (L.getD i 0))) := fun i hi => by
    obtain ⟨b', off', e', _, hc⟩ := hm i hi
    cases e'
    exact hc
  obtain ⟨n, hn⟩ : ∃ n, Hid (L.length = n) := ⟨_, rfl⟩
  rw [hn.out] at hl hl0 hcap he2 HCELL HNZ ⊢
  have hn0 : ((n : Int) == 0) = false := by simp; omega
  have HN0 := hid hl0
  have HBW := hid hbw
  clear hm hD hC h0 hT hs hbw hl0
  go_enter Tryz.func111, Tryz.ntmps111
  go_wp2
  go_loop [1, 2] (fun mv ev => ∃ k : Nat, k < n ∧ mv = .slice (some ⟨b, off + k, none⟩) (n - k) (cap - k) ∧ ev = .int .i64 (e + 32 * k) ∧ Hid (∀ j, j < k → L.getD j 0 = 0)) (fun mv _ => sliceLen mv)
  case atStart => exact ⟨0, by have := HN0.out; omega, rfl, by simp, fun j hj => absurd hj (Nat.not_lt_zero _)⟩
  case round =>
    obtain ⟨k, hkn, rfl, rfl, HZ⟩ := hrel
    have hck0 := HCELL.out k hkn
    have hck : (w.alloc (.cells #[.bool false, .slice none 0 0, .int .i64 0] 41)).cell? ⟨b, off + k, none⟩ = some (.int .u32 (L.getD k 0)) := by
      rw [(show Below w.heap.size w (w.alloc (.cells #[.bool false, .slice none 0 0, .int .i64 0] 41)) from (Below.refl _ _).alloc (Nat.le_refl _) _).cell (p := ⟨b, off + k, none⟩) HBW.out]
      exact hck0
    have hxl := HD.out.get k
    obtain ⟨m, hmm⟩ : ∃ m, Hid (n - k = m) := ⟨_, rfl⟩
    obtain ⟨c, hcc⟩ : ∃ c, Hid (cap - k = c) := ⟨_, rfl⟩
    obtain ⟨E, hE⟩ : ∃ E : Int, Hid (e + 32 * (k : Int) = E) := ⟨_, rfl⟩
    have hE1 : -100000 ≤ E := by have := hE.out; omega
    have hE2 : E ≤ 99868 := by have := hE.out; omega
    have hm1 : (0 : Int) < (m : Int) := by have := hmm.out; omega
    have hm2 : (m : Int) ≤ 2048 := by have := hmm.out; omega
    have hmc : m ≤ c := by have := hmm.out; have := hcc.out; omega
    rw [hmm.out, hcc.out, hE.out]
    by_cases hx0 : L.getD k 0 = 0
    · have hk1 : k + 1 < n := by
        apply Classical.byContradiction
        intro hc
        have : n - 1 = k := by omega
        have h2 := HNZ.out
        rw [this] at h2
        exact h2 hx0
      rw [hx0] at hck
      have hm3 : 1 ≤ m := by omega
      have hc1 : ¬ c = 1 := by have := hmm.out; have := hcc.out; omega
      have HX := hid hx0
      have HK1 := hid hk1
      clear hck0 hx0 hk1 hxl
      go_wp2
      refine ⟨⟨k + 1, HK1.out, slice_eq (by omega) (by have := hmm.out; omega) (by have := hcc.out; omega), by have := hE.out; go_num, fun j hj => ?_⟩, by simp [sliceLen]; omega⟩
      by_cases hjk : j = k
      · rw [hjk]; exact HX.out
      · exact HZ.out j (by omega)
    · have HX := hid hx0
      obtain ⟨x, hx⟩ : ∃ x, Hid (L.getD k 0 = x) := ⟨_, rfl⟩
      rw [hx.out] at hck hx0
      have hxb : ((x : Int) == 0) = false := by simpa using hx0
      have hxl' : x < 4294967296 := by rw [← hx.out]; exact hxl
      have HB0 : Hid (Below w.heap.size w (w.alloc (.cells #[.bool false, .slice none 0 0, .int .i64 0] 41))) := (Below.refl _ _).alloc (Nat.le_refl _) _
      have HTZ := hid (tz32_any x (w.alloc (.cells #[.bool false, .slice none 0 0, .int .i64 0] 41)) hxl' hx0 (HT.out.below HS.out HB0.out))
      have hz := (tz32_spec x hx0 hxl').1
      have HRT := hid (dright_any (L.drop k) (some ⟨b, off + k, none⟩) c 0 (tz32Of x) (w.alloc (.cells #[.bool false, .slice none 0 0, .int .i64 0] 41)) (mag_drop (HM.out.below HB0.out) k) hz (by decide) (by rw [List.length_drop, hn.out]; omega) (HD.out.drop k))
      rw [List.length_drop, hn.out, hmm.out, show 32 * 0 + tz32Of x = tz32Of x by omega] at HRT
      have HV := hid (fun (L' : List Nat) => written_val neg L L' k e HD.out HZ.out HX.out)
      rw [hx.out, hE.out] at HV
      obtain ⟨z, hz'⟩ : ∃ z, Hid (tz32Of x = z) := ⟨_, rfl⟩
      rw [hz'.out] at HTZ HRT HV hz
      have hEz : IntKind.i64.wrap (E + (z : Int)) = E + (z : Int) := by rw [IntWalk.i64_in _ (by omega)]
      have hzI : (z : Int) ≤ 31 := by omega
      have hz0 : (0 : Int) ≤ (z : Int) := by omega
      clear hck0 hxl hxl' hz
      go_wp2_with fail
      refine HTZ.out.mono ?_
      rintro r w1 ⟨rfl, rfl⟩
      go_wp2_with fail
      refine HRT.out.mono ?_
      rintro r w1 ⟨⟨L', a', cap', rfl, ⟨l1, l2, l3, l4, l5, l6⟩, l7⟩, hb1⟩
      obtain ⟨v1, v2⟩ := HV.out L' l4 l5 l6
      have hL0 : L' ≠ [] := fun c => by rw [c] at v1; exact absurd v1 (by decide)
      have HMY := hid (show DyMay neg L' (E + (z : Int)) from Or.inr ⟨hL0, v1, l5, by omega, by omega, by omega⟩)
      have HM1 := hid (fun (W : World) (h : Below w1.heap.size w1 W) => May_yes neg L' a' cap' (E + (z : Int)) W (l3.below h) HMY.out)
      have HOUT := hid (show ∀ W, But w.heap.size w1 W → DyOut (intL neg L) e w.heap.size (.returned (.tuple #[.agg #[.bool neg, .slice a' L'.length cap', .int .i64 (E + (z : Int))], .int .i64 0])) W from fun W h => ⟨neg, L', a', cap', _, rfl, l1, l3.but h (fun b' off' hp _ => by have := (l7 _ hp).1; simp at this; omega), v2, HMY.out, fun p hp => ⟨Nat.le_trans (by simp) (l7 p hp).1, (l7 p hp).2.of_block (h.block _ (l7 p hp).2.lt (by have := (l7 p hp).1; simp at this; omega))⟩⟩)
      have HB1 := hid (HB0.out.trans (hb1.mono (by simp)))
      have hsz : w.heap.size < w1.heap.size := by have := hb1.size; simp at this; omega
      obtain ⟨hc, hf⟩ := bcell hb1
      obtain ⟨n', hn'⟩ : ∃ n', Hid (L'.length = n') := ⟨_, rfl⟩
      rw [hn'.out] at HM1 HOUT
      rw [hn'.out]
      clear l1 l2 l3 l4 l5 l6 l7 v1 v2 hL0 hb1
      go_wp2_with fail
      refine (HM1.out _ ((Below.refl _ _).alloc (Nat.le_refl _) _)).mono ?_
      rintro r w2 ⟨rfl, hb2⟩
      have HB2 := hid hb2
      have hsz2 : w1.heap.size < w2.heap.size := by have := hb2.size; simp at this; omega
      have hsz3 : w.heap.size < w1.heap.size + 1 := by omega
      obtain ⟨hc2, hf2⟩ := bcell hb2
      clear hb2
      go_wp2
      have HBT : Hid (But w.heap.size w1 w2) := (But.of_below ((Below.refl _ _).alloc (Nat.le_refl _) _)).trans (But.of_below HB2.out)
      exact bodyPost_ret (v := .tuple #[.agg #[.bool neg, .slice a' n' cap', .int .i64 (E + (z : Int))], .int .i64 0]) (by simp [results, Tryz.results111, go_sem, hc2, hc, hsz, hsz3]) rfl ⟨HOUT.out _ (((HBT.out.setCell 0 _).setCell 1 _).setCell 2 _), Below.setCell (Below.setCell (Below.setCell (HB1.out.trans (((Below.refl _ _).alloc (Nat.le_refl _) _).trans (HB2.out.mono (by simp)) |>.mono (by omega))) (Nat.le_refl _) _) (Nat.le_refl _) _) (Nat.le_refl _) _⟩
theorem written_any (neg : Bool) (L : List Nat) (a : Option Addr) (cap : Nat) (e : Int) (w : World) (hm : MagAt w a L) (hD : DigL L) (hC : CanL L) (hcap : L.length ≤ cap) (hl : L.length ≤ 2048) (he1 : -100000 ≤ e) (he2 : e + 32 * L.length ≤ 99900) (hT : Tab32 w) (hs : 2 < w.heap.size) :
    Calls Tryz.prog 111 #[.bool neg, .slice a L.length cap, .int .i64 e] w fun r w' => DyOut (intL neg L) e w.heap.size r w' ∧ Below w.heap.size w w' := by
  by_cases h0 : L = []
  · subst h0
    have e0 : intL neg [] = 0 := by unfold intL; cases neg <;> rfl
    rw [e0]
    exact written_nil neg a cap e w
  · have hl0 : L.length ≠ 0 := fun c => h0 (List.length_eq_zero_iff.1 c)
    obtain ⟨b, off, rfl, hb, _⟩ := hm 0 (by omega)
    exact written_some neg L b off cap e w hm hD hC h0 hcap hl he1 he2 hT hs
end Go.Proofs.YtehnkgonhgjeiaaGreatDoor

namespace Go.Proofs.YtehnkgonhgjeiaaGreatDoor
open Go.RowKit Go.IntWalk

theorem trim_words (n b : Nat) (w : World) (hn : n < 18446744073709551616) (h0 : w.cell? ⟨b, 0, none⟩ = some (.int .u32 (loW n))) (h1 : w.cell? ⟨b, 1, none⟩ = some (.int .u32 (hiW n))) :
    Calls Tryz.prog 112 #[.slice (some ⟨b, 0, none⟩) 2 2] w fun r w' => r = .returned (.slice (some ⟨b, 0, none⟩) (numW n) 2) ∧ w' = w := by
  refine (trim_some [loW n, hiW n] b 0 2 w (fun i hi => ?_) (show 2 ≤ 2 by decide) (show 2 ≤ 1099511627776 by decide)).mono ?_
  · have hi2 : i < 2 := hi
    rw [Nat.zero_add]
    rcases (show i = 0 ∨ i = 1 by omega) with rfl | rfl
    · exact h0
    · exact h1
  · rintro r w' ⟨⟨k, hk, rfl, hv, he⟩, rfl⟩
    have : k = numW n := end_unique _ k (numW n) (words_dig n hn) hk (by unfold numW; split <;> (try split) <;> simp) hv ((natL_words n).2.trans (natL_words n).1.symm) he (words_end n)
    exact ⟨by rw [this], rfl⟩
theorem mag_words (n b : Nat) (w : World) (h0 : w.cell? ⟨b, 0, none⟩ = some (.int .u32 (loW n))) (h1 : w.cell? ⟨b, 1, none⟩ = some (.int .u32 (hiW n))) : MagAt w (some ⟨b, 0, none⟩) ([loW n, hiW n].take (numW n)) := by
  apply MagAt.take
  intro i hi
  have hi2 : i < 2 := hi
  refine ⟨b, 0, rfl, World.block_lt_of_cell? w _ h0, ?_⟩
  rw [Nat.zero_add]
  rcases (show i = 0 ∨ i = 1 by omega) with rfl | rfl
  · exact h0
  · exact h1
theorem numW_le (n : Nat) : numW n ≤ 2 := by unfold numW; split <;> (try split) <;> omega
theorem words_take (n : Nat) (hn : n < 18446744073709551616) : DigL ([loW n, hiW n].take (numW n)) ∧ CanL ([loW n, hiW n].take (numW n)) ∧ ([loW n, hiW n].take (numW n)).length = numW n ∧ natL ([loW n, hiW n].take (numW n)) = n := by
  obtain ⟨hc, hl⟩ := can_take [loW n, hiW n] (numW n) (numW_le n) (words_end n)
  exact ⟨(words_dig n hn).take _, hc, hl, (natL_words n).2⟩
def sgnN (neg : Bool) (n : Nat) : Int := if neg = true then -(n : Int) else n
/-- written of a number's words. -/
theorem written_words (neg : Bool) (n b : Nat) (e : Int) (w : World) (hn : n < 18446744073709551616) (h0 : w.cell? ⟨b, 0, none⟩ = some (.int .u32 (loW n))) (h1 : w.cell? ⟨b, 1, none⟩ = some (.int .u32 (hiW n))) (he1 : -100000 ≤ e) (he2 : e ≤ 99000) (hT : Tab32 w) (hs : 2 < w.heap.size) :
    Calls Tryz.prog 111 #[.bool neg, .slice (some ⟨b, 0, none⟩) (numW n) 2, .int .i64 e] w fun r w' => DyOut (sgnN neg n) e w.heap.size r w' ∧ Below w.heap.size w w' := by
  obtain ⟨d1, d2, d3, d4⟩ := words_take n hn
  have hk := numW_le n
  have := written_any neg ([loW n, hiW n].take (numW n)) (some ⟨b, 0, none⟩) 2 e w (mag_words n b w h0 h1) d1 d2 (by rw [d3]; exact hk) (by rw [d3]; omega) he1 (by rw [d3]; omega) hT hs
  rw [d3] at this
  have e1 : intL neg ([loW n, hiW n].take (numW n)) = sgnN neg n := by unfold intL sgnN; rw [d4]
  rw [e1] at this
  exact this
theorem DyOut.but {z e : Int} {B B' y : Nat} {r : Ending} {w w' : World} (h : DyOut z e B r w) (hb : But y w w') (hy : y < B) (hB : B' ≤ B) : DyOut z e B' r w' := by
  obtain ⟨neg, L, a, cap, e', rfl, h1, h2, h3, h4, h5⟩ := h
  exact ⟨neg, L, a, cap, e', rfl, h1, h2.but hb (fun b off hp _ => by have := (h5 _ hp).1; simp at this; omega), h3, h4, fun p hp => ⟨Nat.le_trans hB (h5 p hp).1, (h5 p hp).2.of_block (hb.block _ (h5 p hp).2.lt (by have := (h5 p hp).1; omega))⟩⟩
/-- A dyad with its error, told by letters. -/
def DyRet (z e : Int) (B : Nat) (neg : Bool) (a : Option Addr) (n cap : Nat) (e' : Int) (w' : World) : Prop := DyOut z e B (.returned (.tuple #[.agg #[.bool neg, .slice a n cap, .int .i64 e'], .int .i64 0])) w'
theorem DyOut.ret {z e : Int} {B : Nat} {r : Ending} {w' : World} (h : DyOut z e B r w') : ∃ neg a n cap e', r = .returned (.tuple #[.agg #[.bool neg, .slice a n cap, .int .i64 e'], .int .i64 0]) ∧ DyRet z e B neg a n cap e' w' := by
  obtain ⟨neg, L, a, cap, e', rfl, h1⟩ := h
  exact ⟨neg, a, L.length, cap, e', rfl, neg, L, a, cap, e', rfl, h1⟩
/-- What stays while an answer is made: all but its own place, where three cells lie. -/
structure Res (z : Nat) (W1 W : World) : Prop where
  but : But z W1 W
  cells : ∃ v0 v1 v2, W.heap[z]? = some (.cells #[v0, v1, v2] 41)
theorem Res.facts {z : Nat} {W1 W : World} (h : Res z W1 W) : (∀ o, W.frozen? ⟨z, o, none⟩ = false) ∧ z < W.heap.size ∧ ∃ v0 v1 v2, W.cell? ⟨z, 0, none⟩ = some v0 ∧ W.cell? ⟨z, 1, none⟩ = some v1 ∧ W.cell? ⟨z, 2, none⟩ = some v2 := by
  obtain ⟨v0, v1, v2, h⟩ := h.cells
  exact ⟨fun o => by simp [World.frozen?, h], (Array.getElem?_eq_some_iff.1 h).1, v0, v1, v2, by simp [World.cell?, h], by simp [World.cell?, h], by simp [World.cell?, h]⟩
theorem Res.call {z : Nat} {W1 W W' : World} (h : Res z W1 W) (hb : Below W.heap.size W W') : Res z W1 W' := by
  refine ⟨h.but.trans (But.of_below hb), ?_⟩
  have hz := h.facts.2.1
  obtain ⟨v0, v1, v2, hc⟩ := h.cells
  exact ⟨v0, v1, v2, by rw [hb.block z hz]; exact hc⟩
theorem res_al {z : Nat} {W1 W : World} (h : Hid (Res z W1 W)) (o : Obj) : Hid (Res z W1 (W.alloc o)) := Res.call h.out ((Below.refl _ _).alloc (Nat.le_refl _) _)
theorem res_dr {z : Nat} {W1 W : World} (h : Hid (Res z W1 W)) : Hid (Res z W1 W.drew) := Res.call h.out (Below.refl _ _).drew
theorem res_store {z : Nat} {W1 W : World} (h : Hid (Res z W1 W)) (a b c : Value) : Hid (Res z W1 (((W.setCell ⟨z, 0, none⟩ a).setCell ⟨z, 1, none⟩ b).setCell ⟨z, 2, none⟩ c)) := by
  refine Res.mk (But.setCell (But.setCell (But.setCell h.out.but 0 a) 1 b) 2 c) ?_
  obtain ⟨v0, v1, v2, hc⟩ := h.out.cells
  refine ⟨a, b, c, ?_⟩
  simp [World.setCell, Array.getElem?_modify, hc]
set_option maxRecDepth 4000 in
set_option maxHeartbeats 2000000 in
theorem Of_parts (x m : Nat) (neg : Bool) (E : Int) (w : World) (hm : m < 18446744073709551616) (he1 : -100000 ≤ E) (he2 : E ≤ 99000) (hT : Tab32 w) (hs : 2 < w.heap.size)
    (hP : ∀ W, Below w.heap.size w W → Calls Tryz.prog 110 #[.float .f64 x] W fun r w' => r = .returned (.tuple #[.agg #[.bool neg, .int .u64 m, .int .i64 E], .int .i64 0]) ∧ Below W.heap.size W w') :
    Calls Tryz.prog 62 #[.float .f64 x] w fun r w' => DyOut (sgnN neg m) E w.heap.size r w' ∧ Below w.heap.size w w' := by
  have HP := hid hP
  have HT := hid hT
  have HS := hid hs
  have hlo : IntKind.u32.wrap (m : Int) = (loW m : Int) := by unfold loW; rw [IntKind.wrap_u32]; omega
  have hhi : IntKind.u32.wrap ((m : Int) / 4294967296) = (hiW m : Int) := by unfold hiW; rw [IntKind.wrap_u32]; omega
  have HTR := hid (fun (W : World) b h0 h1 => trim_words m b W hm h0 h1)
  have HWR := hid (fun (W : World) b h0 h1 ht hg => written_words neg m b E W hm h0 h1 he1 he2 ht hg)
  obtain ⟨l, hl⟩ : ∃ l, Hid (loW m = l) := ⟨_, rfl⟩
  obtain ⟨h, hh⟩ : ∃ h, Hid (hiW m = h) := ⟨_, rfl⟩
  obtain ⟨N, hN⟩ : ∃ N, Hid (numW m = N) := ⟨_, rfl⟩
  obtain ⟨Z, hZ⟩ : ∃ Z, Hid (sgnN neg m = Z) := ⟨_, rfl⟩
  rw [hl.out] at hlo HTR HWR
  rw [hh.out] at hhi HTR HWR
  rw [hN.out] at HTR HWR
  rw [hZ.out] at HWR ⊢
  clear hP hT hs hm he1 he2
  go_enter Tryz.func62, Tryz.ntmps62
  go_wp2_with fail
  refine (HP.out _ ((Below.refl _ _).alloc (Nat.le_refl _) _)).mono ?_
  rintro r w1 ⟨rfl, hb1⟩
  have hsz : w.heap.size < w1.heap.size := by have := hb1.size; simp at this; omega
  have HB1 := hid hb1
  clear hb1
  obtain ⟨W1, hW1⟩ : ∃ W1, Hid (w1.alloc (.cells #[.bool neg, .int .u64 m, .int .i64 E] 114) = W1) := ⟨_, rfl⟩
  have HW1b : Hid (Below w.heap.size w W1) := by
    rw [← hW1.out]
    exact (((Below.refl _ _).alloc (Nat.le_refl _) _).trans (HB1.out.mono (by simp))).alloc (by omega) _
  have HW1s := hid (show W1.heap.size = w1.heap.size + 1 by rw [← hW1.out]; simp)
  have HR0 : Hid (Res w.heap.size W1 W1) := by
    refine ⟨But.refl _ _, .bool false, .slice none 0 0, .int .i64 0, ?_⟩
    rw [← hW1.out, ((Below.refl w1.heap.size w1).alloc (Nat.le_refl _) _).block w.heap.size hsz, HB1.out.block w.heap.size (by simp)]
    exact Array.getElem?_push_size
  have HK : Hid (∀ W, Hid (Res w.heap.size W1 W) → (W.cell? ⟨w1.heap.size, 0, none⟩ = some (.bool neg) ∧ W.cell? ⟨w1.heap.size, 1, none⟩ = some (.int .u64 m) ∧ W.cell? ⟨w1.heap.size, 2, none⟩ = some (.int .i64 E)) ∧ Hid (Res w.heap.size W1 W)) := fun W hW => by
    have hne : w1.heap.size ≠ w.heap.size := by omega
    refine ⟨⟨hW.out.but.cell ?_ hne, hW.out.but.cell ?_ hne, hW.out.but.cell ?_ hne⟩, hW⟩ <;> (rw [← hW1.out]; simp [go_sem])
  have HWR2 : Hid (∀ W b, Hid (Res w.heap.size W1 W) → W.cell? ⟨b, 0, none⟩ = some (.int .u32 l) → W.cell? ⟨b, 1, none⟩ = some (.int .u32 h) → Calls Tryz.prog 111 #[.bool neg, .slice (some ⟨b, 0, none⟩) N 2, .int .i64 E] W fun r w' => ∃ neg' a' n' cap' e' v0 v1 v2, r = .returned (.tuple #[.agg #[.bool neg', .slice a' n' cap', .int .i64 e'], .int .i64 0]) ∧ Hid (DyRet Z E (w.heap.size + 1) neg' a' n' cap' e' w') ∧ Hid (Res w.heap.size W1 w') ∧ (∀ o, w'.frozen? ⟨w.heap.size, o, none⟩ = false) ∧ w'.cell? ⟨w.heap.size, 0, none⟩ = some v0 ∧ w'.cell? ⟨w.heap.size, 1, none⟩ = some v1 ∧ w'.cell? ⟨w.heap.size, 2, none⟩ = some v2) := fun W b hW g0 g1 => by
    have hsW : w1.heap.size + 1 ≤ W.heap.size := by have := hW.out.but.size; rw [HW1s.out] at this; exact this
    have hbW : Below w.heap.size w W := HW1b.out.trans (hW.out.but.below (by rw [HW1s.out]; omega) (Nat.le_refl _))
    refine (HWR.out W b g0 g1 (HT.out.below HS.out hbW) (Nat.lt_of_lt_of_le HS.out hbW.size)).mono ?_
    rintro r w' ⟨ho, hb⟩
    obtain ⟨neg', a', n', cap', e', rfl, hr⟩ := ho.ret
    have hres := hW.out.call hb
    obtain ⟨f1, _, v0, v1, v2, f2, f3, f4⟩ := hres.facts
    exact ⟨neg', a', n', cap', e', v0, v1, v2, rfl, DyOut.but hr (But.refl (w.heap.size) _) (by omega) (by omega), hres, f1, f2, f3, f4⟩
  go_wp2_with fail
  rw [hW1.out]
  have HQ0 := res_dr HR0
  go_region_held3 (fun W => (W.cell? ⟨w1.heap.size, 0, none⟩ = some (.bool neg) ∧ W.cell? ⟨w1.heap.size, 1, none⟩ = some (.int .u64 m) ∧ W.cell? ⟨w1.heap.size, 2, none⟩ = some (.int .i64 E)) ∧ Hid (Res w.heap.size W1 W))
    ((refine HK.out _ ?_; first | assumption | exact HQ0 | exact res_dr (by assumption) | exact res_al (by assumption) _ | exact res_dr (res_al (by assumption) _) | exact res_store (by assumption) _ _ _ | exact res_dr (res_store (by assumption) _ _ _)))
    (first
      | (go_at_call 112; refine (HTR.out _ _ (by simp [go_sem]) (by simp [go_sem])).mono ?_; rintro r w2 ⟨rfl, rfl⟩)
      | (go_at_call 111; refine (HWR2.out _ _ (And.right (by assumption)) (by simp [go_sem]) (by simp [go_sem])).mono ?_; rintro r w3 ⟨neg', a', n', cap', e', v0, v1, v2, rfl, HRT, HF3, fz, c0, c1, c2⟩))
  all_goals go_wp2
  all_goals exact bodyPost_ret (v := .tuple #[.agg #[.bool neg', .slice a' n' cap', .int .i64 e'], .int .i64 0]) (by simp [results, Tryz.results62, go_sem, c0, c1, c2]) rfl ⟨DyOut.but HRT.out (But.setCell (But.setCell (But.setCell (But.refl _ _) 0 _) 1 _) 2 _) (Nat.lt_succ_self _) (Nat.le_succ _), HW1b.out.trans ((res_store HF3 _ _ _).out.but.below (by rw [HW1s.out]; omega) (Nat.le_refl _))⟩
theorem DyOut.low {z e : Int} {B : Nat} {r : Ending} {w' : World} (h : DyOut z e B r w') (k : Nat) : DyOut (z * 2 ^ k) (e - k) B r w' := by
  obtain ⟨neg, L, a, cap, e', rfl, h1, h2, h3, h4, h5⟩ := h
  exact ⟨neg, L, a, cap, e', rfl, h1, h2, h3.low k, h4, h5⟩
end Go.Proofs.YtehnkgonhgjeiaaGreatDoor

namespace Go.Proofs.YtehnkgonhgjeiaaGreatDoor
open Go.RowKit Go.IntWalk

theorem dleft_nat (L : List Nat) (a : Option Addr) (cap n : Nat) (w : World) (hm : MagAt w a L) (hn : n ≤ 1000000) (hl : L.length ≤ 1000000) (hD : DigL L) :
    Calls Tryz.prog 176 #[.slice a L.length cap, .int .i64 (n : Nat)] w fun r w' => MagOk (natL L * 2 ^ n) (L.length + n / 32 + 1) r w' ∧ Below w.heap.size w w' := by
  have := dleft_any L a cap (n / 32) (n % 32) w hm (Nat.mod_lt _ (by decide)) (by omega) hl hD
  rw [show 32 * (n / 32) + n % 32 = n by omega] at this
  exact this
/-- A dyad in a block of its own. -/
def DyBox (neg : Bool) (a : Option Addr) (n cap : Nat) (e : Int) : Obj := .cells #[.bool neg, .slice a n cap, .int .i64 e] 41
def AlW (w : World) (n1 n2 : Bool) (a1 a2 : Option Addr) (l1 l2 c1 c2 : Nat) (e1 e2 : Int) : World := (w.alloc (DyBox n1 a1 l1 c1 e1)).alloc (DyBox n2 a2 l2 c2 e2)
def DCells (W : World) (b : Nat) (neg : Bool) (a : Option Addr) (n cap : Nat) (e : Int) : Prop := W.cell? ⟨b, 0, none⟩ = some (.bool neg) ∧ W.cell? ⟨b, 1, none⟩ = some (.slice a n cap) ∧ W.cell? ⟨b, 2, none⟩ = some (.int .i64 e)
theorem dcells_of {W : World} {b : Nat} {neg : Bool} {a : Option Addr} {n cap : Nat} {e : Int} (h : W.heap[b]? = some (DyBox neg a n cap e)) : DCells W b neg a n cap e :=
  ⟨by simp [World.cell?, h, DyBox], by simp [World.cell?, h, DyBox], by simp [World.cell?, h, DyBox]⟩
theorem new_blk (w : World) (o : Obj) (k : Nat) (hk : k = w.heap.size) : (w.alloc o).heap[k]? = some o := by
  rw [hk]
  exact Array.getElem?_push_size
theorem AlW.size (w : World) (n1 n2 : Bool) (a1 a2 : Option Addr) (l1 l2 c1 c2 : Nat) (e1 e2 : Int) : (AlW w n1 n2 a1 a2 l1 l2 c1 c2 e1 e2).heap.size = w.heap.size + 2 := by unfold AlW; simp
theorem AlW.below (w : World) (n1 n2 : Bool) (a1 a2 : Option Addr) (l1 l2 c1 c2 : Nat) (e1 e2 : Int) : Below w.heap.size w (AlW w n1 n2 a1 a2 l1 l2 c1 c2 e1 e2) := ((Below.refl _ _).alloc (Nat.le_refl _) _).alloc (by simp) _
theorem AlW.cells (w : World) (n1 n2 : Bool) (a1 a2 : Option Addr) (l1 l2 c1 c2 : Nat) (e1 e2 : Int) : (AlW w n1 n2 a1 a2 l1 l2 c1 c2 e1 e2).heap[w.heap.size]? = some (DyBox n1 a1 l1 c1 e1) ∧ (AlW w n1 n2 a1 a2 l1 l2 c1 c2 e1 e2).heap[w.heap.size + 1]? = some (DyBox n2 a2 l2 c2 e2) := by
  unfold AlW
  refine ⟨?_, new_blk _ _ _ (by simp)⟩
  rw [((Below.refl _ (w.alloc (DyBox n1 a1 l1 c1 e1))).alloc (Nat.le_refl _) _).block w.heap.size (by simp)]
  exact new_blk w _ _ rfl
/-- What stays while both are shifted. -/
def AlFr (w : World) (n1 n2 : Bool) (a1 a2 : Option Addr) (l1 l2 c1 c2 : Nat) (e1 e2 : Int) (W : World) : Prop := Below (w.heap.size + 2) (AlW w n1 n2 a1 a2 l1 l2 c1 c2 e1 e2) W
theorem AlFr.all {w : World} {n1 n2 : Bool} {a1 a2 : Option Addr} {l1 l2 c1 c2 : Nat} {e1 e2 : Int} {W : World} (h : AlFr w n1 n2 a1 a2 l1 l2 c1 c2 e1 e2 W) : DCells W w.heap.size n1 a1 l1 c1 e1 ∧ DCells W (w.heap.size + 1) n2 a2 l2 c2 e2 ∧ Below w.heap.size w W ∧ w.heap.size + 2 ≤ W.heap.size := by
  obtain ⟨a, b⟩ := AlW.cells w n1 n2 a1 a2 l1 l2 c1 c2 e1 e2
  have hs := h.size
  rw [AlW.size] at hs
  exact ⟨dcells_of ((h.block _ (by omega)).trans a), dcells_of ((h.block _ (by omega)).trans b), (AlW.below w n1 n2 a1 a2 l1 l2 c1 c2 e1 e2).trans (h.mono (by omega)), hs⟩
theorem AlFr.call {w : World} {n1 n2 : Bool} {a1 a2 : Option Addr} {l1 l2 c1 c2 : Nat} {e1 e2 : Int} {W W' : World} (h : AlFr w n1 n2 a1 a2 l1 l2 c1 c2 e1 e2 W) (hb : Below W.heap.size W W') : AlFr w n1 n2 a1 a2 l1 l2 c1 c2 e1 e2 W' := h.trans (hb.mono h.all.2.2.2)
set_option maxRecDepth 4000 in
set_option maxHeartbeats 2000000 in
theorem aligned_any (n1 n2 : Bool) (L1 L2 : List Nat) (a1 a2 : Option Addr) (c1 c2 i j : Nat) (e1 e2 m : Int) (w : World) (h1 : MagAt w a1 L1) (h2 : MagAt w a2 L2) (d1 : DigL L1) (d2 : DigL L2) (hl1 : L1.length ≤ 3000) (hl2 : L2.length ≤ 3000) (hm : min e1 e2 = m) (hi : e1 - m = (i : Int)) (hj : e2 - m = (j : Int)) (hi2 : i ≤ 300000) (hj2 : j ≤ 300000) :
    Calls Tryz.prog 150 #[.agg #[.bool n1, .slice a1 L1.length c1, .int .i64 e1], .agg #[.bool n2, .slice a2 L2.length c2, .int .i64 e2]] w fun r w' => ∃ X Y ax ay cx cy, r = .returned (.tuple #[.slice ax X.length cx, .slice ay Y.length cy, .int .i64 m]) ∧ MagIs (natL L1 * 2 ^ i) (L1.length + i / 32 + 1) X ax cx w' ∧ MagIs (natL L2 * 2 ^ j) (L2.length + j / 32 + 1) Y ay cy w' ∧ Below w.heap.size w w' := by
  have HLA : Hid (∀ W, Hid (AlFr w n1 n2 a1 a2 L1.length L2.length c1 c2 e1 e2 W) → Calls Tryz.prog 176 #[.slice a1 L1.length c1, .int .i64 (i : Nat)] W fun r w' => ∃ X ax cx, r = .returned (.slice ax X cx) ∧ Hid (∃ LX, LX.length = X ∧ MagIs (natL L1 * 2 ^ i) (L1.length + i / 32 + 1) LX ax cx w') ∧ Hid (Below W.heap.size W w') ∧ Hid (AlFr w n1 n2 a1 a2 L1.length L2.length c1 c2 e1 e2 w')) := fun W hW => by
    obtain ⟨_, _, hbw, _⟩ := hW.out.all
    refine (dleft_nat L1 a1 c1 i W (h1.below hbw) (by omega) (by omega) d1).mono ?_
    rintro r w' ⟨⟨LX, ax, cx, rfl, hok⟩, hb⟩
    exact ⟨LX.length, ax, cx, rfl, ⟨LX, rfl, hok⟩, hb, hW.out.call hb⟩
  have HLB : Hid (∀ W, Hid (AlFr w n1 n2 a1 a2 L1.length L2.length c1 c2 e1 e2 W) → Calls Tryz.prog 176 #[.slice a2 L2.length c2, .int .i64 (j : Nat)] W fun r w' => ∃ Y ay cy, r = .returned (.slice ay Y cy) ∧ Hid (∃ LY, LY.length = Y ∧ MagIs (natL L2 * 2 ^ j) (L2.length + j / 32 + 1) LY ay cy w') ∧ Hid (Below W.heap.size W w') ∧ Hid (AlFr w n1 n2 a1 a2 L1.length L2.length c1 c2 e1 e2 w')) := fun W hW => by
    obtain ⟨_, _, hbw, _⟩ := hW.out.all
    refine (dleft_nat L2 a2 c2 j W (h2.below hbw) (by omega) (by omega) d2).mono ?_
    rintro r w' ⟨⟨LY, ay, cy, rfl, hok⟩, hb⟩
    exact ⟨LY.length, ay, cy, rfl, ⟨LY, rfl, hok⟩, hb, hW.out.call hb⟩
  obtain ⟨l1, hl1'⟩ : ∃ l1, Hid (L1.length = l1) := ⟨_, rfl⟩
  obtain ⟨l2, hl2'⟩ : ∃ l2, Hid (L2.length = l2) := ⟨_, rfl⟩
  rw [hl1'.out, hl2'.out] at HLA HLB ⊢
  have HK : Hid (∀ W, Hid (AlFr w n1 n2 a1 a2 l1 l2 c1 c2 e1 e2 W) → ((W.cell? ⟨w.heap.size, 0, none⟩ = some (.bool n1) ∧ W.cell? ⟨w.heap.size, 1, none⟩ = some (.slice a1 l1 c1) ∧ W.cell? ⟨w.heap.size, 2, none⟩ = some (.int .i64 e1)) ∧ (W.cell? ⟨w.heap.size + 1, 0, none⟩ = some (.bool n2) ∧ W.cell? ⟨w.heap.size + 1, 1, none⟩ = some (.slice a2 l2 c2) ∧ W.cell? ⟨w.heap.size + 1, 2, none⟩ = some (.int .i64 e2))) ∧ Hid (AlFr w n1 n2 a1 a2 l1 l2 c1 c2 e1 e2 W)) := fun W h => ⟨⟨h.out.all.1, h.out.all.2.1⟩, h⟩
  have HQ0 : Hid (AlFr w n1 n2 a1 a2 l1 l2 c1 c2 e1 e2 (AlW w n1 n2 a1 a2 l1 l2 c1 c2 e1 e2).drew) := Below.drew (Below.refl _ _)
  have hd1 : IntKind.i64.wrap (e1 - m) = (i : Int) := by rw [IntWalk.i64_in _ (by omega)]; exact hi
  have hd2 : IntKind.i64.wrap (e2 - m) = (j : Int) := by rw [IntWalk.i64_in _ (by omega)]; exact hj
  have hi0 : IntKind.i64.wrap (i : Int) = (i : Int) := by rw [IntWalk.i64_in _ (by omega)]
  have hj0 : IntKind.i64.wrap (j : Int) = (j : Int) := by rw [IntWalk.i64_in _ (by omega)]
  unfold AlW DyBox at HQ0
  clear h1 h2 d1 d2 hl1 hl2 hi2 hj2 hi hj
  go_enter Tryz.func150, Tryz.ntmps150
  go_wp2_with fail
  go_region_held3 (fun W => ((W.cell? ⟨w.heap.size, 0, none⟩ = some (.bool n1) ∧ W.cell? ⟨w.heap.size, 1, none⟩ = some (.slice a1 l1 c1) ∧ W.cell? ⟨w.heap.size, 2, none⟩ = some (.int .i64 e1)) ∧ (W.cell? ⟨w.heap.size + 1, 0, none⟩ = some (.bool n2) ∧ W.cell? ⟨w.heap.size + 1, 1, none⟩ = some (.slice a2 l2 c2) ∧ W.cell? ⟨w.heap.size + 1, 2, none⟩ = some (.int .i64 e2))) ∧ Hid (AlFr w n1 n2 a1 a2 l1 l2 c1 c2 e1 e2 W))
    ((refine HK.out _ ?_; first | assumption | exact HQ0))
    (first
      | (go_at_call 176; with_reducible refine (HLA.out _ (And.right (by assumption))).mono ?_; rintro r w1 ⟨X, ax, cx, rfl, HX, HB1, HF1⟩)
      | (go_at_call 176; with_reducible refine (HLB.out _ (And.right (by assumption))).mono ?_; rintro r w2 ⟨Y, ay, cy, rfl, HY, HB2, HF2⟩))
  all_goals go_wp2
  all_goals go_ret3
  all_goals
    obtain ⟨LX, rfl, hX⟩ := HX.out
    obtain ⟨LY, rfl, hY⟩ := HY.out
    exact ⟨LX, LY, ax, ay, cx, cy, rfl, ⟨hX.1, hX.2.1, hX.2.2.1.below HB2.out, hX.2.2.2⟩, hY, HF2.out.all.2.2.1⟩
end Go.Proofs.YtehnkgonhgjeiaaGreatDoor
