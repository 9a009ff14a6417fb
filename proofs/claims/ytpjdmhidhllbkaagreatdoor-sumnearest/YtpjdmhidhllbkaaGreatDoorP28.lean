
/- What math/bits.TrailingZeros32 does, and dyad's within and May. -/
import Derived.Test.YtpjdmhidhllbkaaGreatDoorP20
import Derived.Test.YtpjdmhidhllbkaaGreatDoorP23
namespace Go.Proofs.YtpjdmhidhllbkaaGreatDoor
open Go.RowKit Go.IntWalk

/-- The library's table for words of 32 bits stands in its variable. -/
def Tab32 (w : World) : Prop := ∀ j, j < 32 → w.cell? ⟨1, j, none⟩ = some (.int .u8 (Lib.deBruijn32tab.getD j 0))
theorem Tab32.below {w w' : World} (h : Tab32 w) (hs : 1 < w.heap.size) (hb : Below w.heap.size w w') : Tab32 w' := fun j hj => by rw [hb.cell (p := ⟨1, j, none⟩) hs]; exact h j hj
theorem tz32_key (x a : Nat) (hx : x < 4294967296) (hx0 : x ≠ 0) (hlow : x &&& (4294967296 - x) = a) :
    IntKind.u32.wrap (bits BinOp.and IntKind.u32 (x : Int) (IntKind.u32.wrap (-(x : Int))) * 125613361) / 134217728 = ((a * 125613361 % 4294967296 / 134217728 : Nat) : Int) := by
  have e1 : IntKind.u32.wrap (-(x : Int)) = ((4294967296 - x : Nat) : Int) := by rw [IntKind.wrap_u32]; omega
  rw [e1, u32_and_nat x _ hx (by omega), hlow, IntKind.wrap_u32]
  omega
set_option maxHeartbeats 400000 in
theorem tz32_core (x k idx : Nat) (w : World) (hx0 : ((x : Int) == 0) = false)
    (key : IntKind.u32.wrap (bits BinOp.and IntKind.u32 (x : Int) (IntKind.u32.wrap (-(x : Int))) * 125613361) / 134217728 = (idx : Int))
    (hi : idx < 32) (hk : k < 32) (hcell : w.cell? ⟨1, idx, none⟩ = some (.int .u8 k)) :
    Calls Tryz.prog 134 #[.int .u32 x] w fun e w' => e = .returned (.int .i64 k) ∧ w' = w := by
  have key2 := key
  simp only [IntKind.wrap_u32] at key2
  go_enter Tryz.func134, Tryz.ntmps134
  go_wp2_with (first | simp only [key] | simp only [key2])
  go_ret
  exact ⟨rfl, rfl⟩
def tz32Of (m : Nat) : Nat := Lib.ctz 32 m
theorem tz32_spec (m : Nat) (h0 : m ≠ 0) (h : m < 4294967296) : tz32Of m < 32 ∧ ∃ k, m = 2 ^ tz32Of m * (2 * k + 1) := by
  obtain ⟨k, hk, hl⟩ := Lib.ctzFrom_spec 32 m (by omega) h
  have e : tz32Of m = Lib.ctzFrom 32 m := by simp [tz32Of, Lib.ctz, h0]
  rw [e]
  exact ⟨hl, k, hk⟩
theorem tz32_any (x : Nat) (w : World) (hx : x < 4294967296) (hx0 : x ≠ 0) (hT : Tab32 w) :
    Calls Tryz.prog 134 #[.int .u32 x] w fun e w' => e = .returned (.int .i64 (tz32Of x)) ∧ w' = w := by
  obtain ⟨hlow, hk⟩ := Lib.lowest_bit 32 x hx0 hx
  obtain ⟨hi, htab⟩ := Lib.deBruijn32_at _ hk
  have hcell := hT _ hi
  rw [htab] at hcell
  exact tz32_core x (Lib.ctz 32 x) _ w (by simpa using hx0) (tz32_key x _ hx hx0 hlow) hi hk hcell
set_option maxHeartbeats 400000 in
theorem within_any (e : Int) (w : World) (h1 : -100000 ≤ e) (h2 : e ≤ 100000) :
    Calls Tryz.prog 147 #[.int .i64 e] w fun r w' => r = .returned (.bool true) ∧ w' = w := by
  go_enter Tryz.func147, Tryz.ntmps147
  go_wp2
  go_ret
  exact ⟨rfl, rfl⟩
/-- A dyad that may be. -/
def DyMay (neg : Bool) (L : List Nat) (e : Int) : Prop := (L = [] ∧ neg = false ∧ e = 0) ∨ (L ≠ [] ∧ natL L % 2 = 1 ∧ CanL L ∧ L.length ≤ 2048 ∧ -100000 ≤ e ∧ e ≤ 100000)
set_option maxHeartbeats 1000000 in
theorem May_yes (neg : Bool) (L : List Nat) (a : Option Addr) (cap : Nat) (e : Int) (w : World) (hm : MagAt w a L) (h : DyMay neg L e) :
    Calls Tryz.prog 119 #[.agg #[.bool neg, .slice a L.length cap, .int .i64 e]] w fun r w' => r = .returned (.bool true) ∧ Below w.heap.size w w' := by
  rcases h with ⟨rfl, rfl, rfl⟩ | ⟨h0, hodd, hcan, hlen, he1, he2⟩
  · show Calls Tryz.prog 119 #[.agg #[.bool false, .slice a 0 cap, .int .i64 0]] w _
    clear hm
    go_enter Tryz.func119, Tryz.ntmps119
    go_wp2
    go_ret
    exact ⟨rfl, (Below.refl _ _).alloc (Nat.le_refl _) _⟩
  · have hl0 : L.length ≠ 0 := fun c => h0 (List.length_eq_zero_iff.1 c)
    obtain ⟨b, off, rfl, hb, hc0⟩ := hm 0 (by omega)
    obtain ⟨b', off', e', hb', hc1⟩ := hm (L.length - 1) (by omega)
    cases e'
    have hx := hcan h0
    have hy := natL_mod L
    rw [hodd] at hy
    obtain ⟨n, hn⟩ : ∃ n, Hid (L.length = n) := ⟨_, rfl⟩
    rw [hn.out] at hlen hl0 hc1 hx ⊢
    obtain ⟨x, hx'⟩ : ∃ x, Hid (L.getD (n - 1) 0 = x) := ⟨_, rfl⟩
    obtain ⟨y, hy'⟩ : ∃ y, Hid (L.getD 0 0 = y) := ⟨_, rfl⟩
    rw [hx'.out] at hc1 hx
    rw [hy'.out, Nat.add_zero] at hc0
    rw [hy'.out] at hy
    obtain ⟨k, hk⟩ : ∃ k, Hid (n = k + 1) := ⟨n - 1, show n = n - 1 + 1 by omega⟩
    have hkk : n - 1 = k := by have := hk.out; omega
    rw [hkk] at hc1
    have hk1 : IntKind.i64.wrap ((n : Int) - 1) = (k : Int) := by have := hk.out; rw [IntWalk.i64_in _ (by omega)]; omega
    have hk2 : (n : Int) - 1 = (k : Int) := by have := hk.out; omega
    have hkn : ((n : Int) == 0) = false := by simp; omega
    have hkb : (k : Int) < (n : Int) := by omega
    have hxb : ((x : Int) == 0) = false := by simpa using hx
    have hyb : (y : Int) % 2 = 1 := by omega
    have hlI : (n : Int) ≤ 2048 := by omega
    have h0n : (0 : Int) < (n : Int) := by omega
    clear hkk
    have hbw : b < w.heap.size := hb
    have HW := hid (fun (W : World) => within_any e W he1 he2)
    clear hm hodd hcan hy hlen hl0 h0 hb hb' he1 he2 hx' hy' hn hk
    go_enter Tryz.func119, Tryz.ntmps119
    go_wp2_with fail
    refine (HW.out _).mono ?_
    rintro r w1 ⟨rfl, rfl⟩
    go_wp2
    go_ret
    exact ⟨ret_bool (by simpa using hx), (Below.refl _ _).alloc (Nat.le_refl _) _⟩
end Go.Proofs.YtpjdmhidhllbkaaGreatDoor

namespace Go.Proofs.YtpjdmhidhllbkaaGreatDoor
open Go.RowKit Go.IntWalk

theorem natL_dropz (L : List Nat) : ∀ k, (∀ j, j < k → L.getD j 0 = 0) → natL L = 4294967296 ^ k * natL (L.drop k)
  | 0, _ => by rw [Nat.pow_zero, Nat.one_mul, List.drop_zero]
  | k + 1, h => by
    rw [natL_dropz L k (fun j hj => h j (by omega)), natL_drop L k, h k (by omega), Nat.zero_add, ← Nat.mul_assoc, ← Nat.pow_succ]
/-- A word's zeros at the end are the number's. -/
theorem natL_odd (D : List Nat) (hD : DigL D) (h0 : D.getD 0 0 ≠ 0) : ∃ m, natL D = 2 ^ tz32Of (D.getD 0 0) * m ∧ m % 2 = 1 ∧ natL D / 2 ^ tz32Of (D.getD 0 0) = m := by
  obtain ⟨hz, k, hk⟩ := tz32_spec (D.getD 0 0) h0 (hD.get 0)
  have e := natL_drop D 0
  rw [List.drop_zero] at e
  obtain ⟨z, hz'⟩ : ∃ z, tz32Of (D.getD 0 0) = z := ⟨_, rfl⟩
  rw [hz'] at hz hk ⊢
  obtain ⟨r, hr⟩ : ∃ r, natL (D.drop (0 + 1)) = r := ⟨_, rfl⟩
  rw [hr, hk] at e
  have h32 : (4294967296 : Nat) = 2 ^ z * (2 * 2 ^ (31 - z)) := by
    rw [show 2 * 2 ^ (31 - z) = 2 ^ (32 - z) by rw [show 32 - z = (31 - z) + 1 by omega, Nat.pow_succ, Nat.mul_comm], ← Nat.pow_add, show z + (32 - z) = 32 by omega]
  have e2 : natL D = 2 ^ z * (2 * k + 1 + 2 * (2 ^ (31 - z) * r)) := by
    have e3 : 4294967296 * r = 2 ^ z * (2 * (2 ^ (31 - z) * r)) := by
      conv => lhs; rw [h32]
      rw [Nat.mul_assoc, Nat.mul_assoc]
    rw [e, e3, ← Nat.mul_add]
  refine ⟨_, e2, by omega, ?_⟩
  rw [e2, Nat.mul_div_cancel_left _ (Nat.two_pow_pos z)]
/-- What is written of a number. -/
theorem written_val (neg : Bool) (L L' : List Nat) (k : Nat) (e : Int) (hD : DigL L) (hz : ∀ j, j < k → L.getD j 0 = 0) (h0 : L.getD k 0 ≠ 0) (d' : DigL L') (c' : CanL L') (hv : natL L' = natL (L.drop k) / 2 ^ tz32Of (L.getD k 0)) :
    natL L' % 2 = 1 ∧ DyV neg L' (e + 32 * k + tz32Of (L.getD k 0)) (intL neg L) e := by
  have hg : (L.drop k).getD 0 0 = L.getD k 0 := by simp [List.getD]
  obtain ⟨m, m1, m2, m3⟩ := natL_odd (L.drop k) (hD.drop k) (by rw [hg]; exact h0)
  rw [hg] at m1 m3
  rw [m3] at hv
  have e1 := natL_dropz L k hz
  obtain ⟨z, hz'⟩ : ∃ z, tz32Of (L.getD k 0) = z := ⟨_, rfl⟩
  rw [hz'] at m1 ⊢
  have e2 : natL L = natL L' * 2 ^ (32 * k + z) := by rw [e1, m1, hv, pow32, ← Nat.mul_assoc, ← Nat.pow_add, Nat.mul_comm]
  refine ⟨by rw [hv]; exact m2, d', c', Or.inr ⟨by rw [hv]; exact m2, 32 * k + z, ?_, by omega⟩⟩
  unfold intL
  have e3 : (natL L : Int) = (natL L' : Int) * 2 ^ (32 * k + z) := by rw [e2, Int.natCast_mul, Int.natCast_pow]; rfl
  cases neg
  · rw [if_neg (by decide), if_neg (by decide), e3]
  · rw [if_pos rfl, if_pos rfl, e3, Int.neg_mul]
theorem mag_drop {w : World} {b off : Nat} {L : List Nat} (h : MagAt w (some ⟨b, off, none⟩) L) (k : Nat) : MagAt w (some ⟨b, off + k, none⟩) (L.drop k) := by
  intro i hi
  rw [List.length_drop] at hi
  obtain ⟨b', off', e, hb, hc⟩ := h (k + i) (by omega)
  cases e
  refine ⟨b, off + k, rfl, hb, ?_⟩
  rw [Nat.add_assoc, hc]
  congr 3
  simp [List.getD]
/-- What is answered: a dyad that may be, in new memory, and no error. -/
def DyOut (z e : Int) (B : Nat) (r : Ending) (w' : World) : Prop := ∃ (neg : Bool) (L : List Nat) (a : Option Addr) (cap : Nat) (e' : Int), r = .returned (.tuple #[.agg #[.bool neg, .slice a L.length cap, .int .i64 e'], .int .i64 0]) ∧ L.length ≤ cap ∧ MagAt w' a L ∧ DyV neg L e' z e ∧ DyMay neg L e' ∧ (∀ p, a = some p → B ≤ p.block ∧ OwnRow w' p L.length)
set_option maxHeartbeats 400000 in
theorem written_nil (neg : Bool) (a : Option Addr) (cap : Nat) (e : Int) (w : World) :
    Calls Tryz.prog 113 #[.bool neg, .slice a 0 cap, .int .i64 e] w fun r w' => DyOut 0 e w.heap.size r w' ∧ Below w.heap.size w w' := by
  go_enter Tryz.func113, Tryz.ntmps113
  go_wp2
  refine bodyPost_ret (v := .tuple #[.agg #[.bool false, .slice none 0 0, .int .i64 0], .int .i64 0]) (by simp [results, Tryz.results113, go_sem]) rfl ⟨⟨false, [], none, 0, 0, rfl, Nat.le_refl _, fun _ hi => absurd hi (Nat.not_lt_zero _), ⟨fun _ hd => absurd hd List.not_mem_nil, fun h => absurd rfl h, Or.inl ⟨rfl, rfl, rfl, rfl⟩⟩, Or.inl ⟨rfl, rfl, rfl⟩, fun _ h => by cases h⟩, ?_⟩
  exact (Below.refl _ _).alloc (Nat.le_refl _) _
theorem slice_eq {b o o' n n' c c' : Nat} (h1 : o = o') (h2 : n = n') (h3 : c = c') : Value.slice (some ⟨b, o, none⟩) n c = .slice (some ⟨b, o', none⟩) n' c' := by rw [h1, h2, h3]
set_option maxRecDepth 4000 in
set_option maxHeartbeats 2000000 in
theorem written_some (neg : Bool) (L : List Nat) (b off cap : Nat) (e : Int) (w : World) (hm : MagAt w (some ⟨b, off, none⟩) L) (hD : DigL L) (hC : CanL L) (h0 : L ≠ []) (hcap : L.length ≤ cap) (hl : L.length ≤ 2048) (he1 : -100000 ≤ e) (he2 : e + 32 * L.length ≤ 99900) (hT : Tab32 w) (hs : 1 < w.heap.size) :
    Calls Tryz.prog 113 #[.bool neg, .slice (some ⟨b, off, none⟩) L.length cap, .int .i64 e] w fun r w' => DyOut (intL neg L) e w.heap.size r w' ∧ Below w.heap.size w w' := by
  have HM := hid hm
  have HD := hid hD
  have HC := hid hC
  have HT := hid hT
  have HS := hid hs
  have HNZ := hid (hC h0)
  have hl0 : L.length ≠ 0 := fun c => h0 (List.length_eq_zero_iff.1 c)
  have hbw : b < w.heap.size := by obtain ⟨b', off', e', hb, _⟩ := hm 0 (by omega); cases e'; exact hb
  have HCELL : Hid (∀ i, i < L.length → w.cell? ⟨b, off + i, none⟩ = some (.int .u32 (L.getD i 0))) := fun i hi => by
    obtain ⟨b', off', e', _, hc⟩ := hm i hi
    cases e'
    exact hc
  obtain ⟨n, hn⟩ : ∃ n, Hid (L.length = n) := ⟨_, rfl⟩
  rw [hn.out] at hl hl0 hcap he2 HCELL HNZ ⊢
  have hn0 : ((n : Int) == 0) = false := by simp; omega
  have HN0 := hid hl0
  have HBW := hid hbw
  clear hm hD hC h0 hT hs hbw hl0
  go_enter Tryz.func113, Tryz.ntmps113
  go_wp2
  go_loop [1, 2] (fun mv ev => ∃ k : Nat, k < n ∧ mv = .slice (some ⟨b, off + k, none⟩) (n - k) (cap - k) ∧ ev = .int .i64 (e + 32 * k) ∧ Hid (∀ j, j < k → L.getD j 0 = 0)) (fun mv _ => sliceLen mv)
  case atStart => exact ⟨0, by have := HN0.out; omega, rfl, by simp, fun j hj => absurd hj (Nat.not_lt_zero _)⟩
  case round =>
    obtain ⟨k, hkn, rfl, rfl, HZ⟩ := hrel
    have hck0 := HCELL.out k hkn
    have hck : (w.alloc (.cells #[.bool false, .slice none 0 0, .int .i64 0] 64)).cell? ⟨b, off + k, none⟩ = some (.int .u32 (L.getD k 0)) := by
      rw [(show Below w.heap.size w (w.alloc (.cells #[.bool false, .slice none 0 0, .int .i64 0] 64)) from (Below.refl _ _).alloc (Nat.le_refl _) _).cell (p := ⟨b, off + k, none⟩) HBW.out]
      exact hck0
    have hxl := HD.out.get k
    obtain ⟨m, hmm⟩ : ∃ m, Hid (n - k = m) := ⟨_, rfl⟩
    obtain ⟨c, hcc⟩ : ∃ c, Hid (cap - k = c) := ⟨_, rfl⟩
    obtain ⟨E, hE⟩ : ∃ E : Int, Hid (e + 32 * (k : Int) = E) := ⟨_, rfl⟩
    have hE1 : -100000 ≤ E := by have := hE.out; omega
    have hE2 : E ≤ 99868 := by have := hE.out; omega
    have hm1 : (0 : Int) < (m : Int) := by have := hmm.out; omega
    have hm2 : (m : Int) ≤ 2048 := by have := hmm.out; omega
    have hmc : m ≤ c := by have := hmm.out; have := hcc.out; omega
    rw [hmm.out, hcc.out, hE.out]
    by_cases hx0 : L.getD k 0 = 0
    · have hk1 : k + 1 < n := by
        apply Classical.byContradiction
        intro hc
        have : n - 1 = k := by omega
        have h2 := HNZ.out
        rw [this] at h2
        exact h2 hx0
      rw [hx0] at hck
      have hm3 : 1 ≤ m := by omega
      have hc1 : ¬ c = 1 := by have := hmm.out; have := hcc.out; omega
      have HX := hid hx0
      have HK1 := hid hk1
      clear hck0 hx0 hk1 hxl
      go_wp2
      refine ⟨⟨k + 1, HK1.out, slice_eq (by omega) (by have := hmm.out; omega) (by have := hcc.out; omega), by have := hE.out; go_num, fun j hj => ?_⟩, by simp [sliceLen]; omega⟩
      by_cases hjk : j = k
      · rw [hjk]; exact HX.out
      · exact HZ.out j (by omega)
    · have HX := hid hx0
      obtain ⟨x, hx⟩ : ∃ x, Hid (L.getD k 0 = x) := ⟨_, rfl⟩
      rw [hx.out] at hck hx0
      have hxb : ((x : Int) == 0) = false := by simpa using hx0
      have hxl' : x < 4294967296 := by rw [← hx.out]; exact hxl
      have HB0 : Hid (Below w.heap.size w (w.alloc (.cells #[.bool false, .slice none 0 0, .int .i64 0] 64))) := (Below.refl _ _).alloc (Nat.le_refl _) _
      have HTZ := hid (tz32_any x (w.alloc (.cells #[.bool false, .slice none 0 0, .int .i64 0] 64)) hxl' hx0 (HT.out.below HS.out HB0.out))
      have hz := (tz32_spec x hx0 hxl').1
      have HRT := hid (dright_any (L.drop k) (some ⟨b, off + k, none⟩) c 0 (tz32Of x) (w.alloc (.cells #[.bool false, .slice none 0 0, .int .i64 0] 64)) (mag_drop (HM.out.below HB0.out) k) hz (by decide) (by rw [List.length_drop, hn.out]; omega) (HD.out.drop k))
      rw [List.length_drop, hn.out, hmm.out, show 32 * 0 + tz32Of x = tz32Of x by omega] at HRT
      have HV := hid (fun (L' : List Nat) => written_val neg L L' k e HD.out HZ.out HX.out)
      rw [hx.out, hE.out] at HV
      obtain ⟨z, hz'⟩ : ∃ z, Hid (tz32Of x = z) := ⟨_, rfl⟩
      rw [hz'.out] at HTZ HRT HV hz
      have hEz : IntKind.i64.wrap (E + (z : Int)) = E + (z : Int) := by rw [IntWalk.i64_in _ (by omega)]
      have hzI : (z : Int) ≤ 31 := by omega
      have hz0 : (0 : Int) ≤ (z : Int) := by omega
      clear hck0 hxl hxl' hz
      go_wp2_with fail
      refine HTZ.out.mono ?_
      rintro r w1 ⟨rfl, rfl⟩
      go_wp2_with fail
      refine HRT.out.mono ?_
      rintro r w1 ⟨⟨L', a', cap', rfl, ⟨l1, l2, l3, l4, l5, l6⟩, l7⟩, hb1⟩
      obtain ⟨v1, v2⟩ := HV.out L' l4 l5 l6
      have hL0 : L' ≠ [] := fun c => by rw [c] at v1; exact absurd v1 (by decide)
      have HMY := hid (show DyMay neg L' (E + (z : Int)) from Or.inr ⟨hL0, v1, l5, by omega, by omega, by omega⟩)
      have HM1 := hid (fun (W : World) (h : Below w1.heap.size w1 W) => May_yes neg L' a' cap' (E + (z : Int)) W (l3.below h) HMY.out)
      have HOUT := hid (show ∀ W, But w.heap.size w1 W → DyOut (intL neg L) e w.heap.size (.returned (.tuple #[.agg #[.bool neg, .slice a' L'.length cap', .int .i64 (E + (z : Int))], .int .i64 0])) W from fun W h => ⟨neg, L', a', cap', _, rfl, l1, l3.but h (fun b' off' hp _ => by have := (l7 _ hp).1; simp at this; omega), v2, HMY.out, fun p hp => ⟨Nat.le_trans (by simp) (l7 p hp).1, (l7 p hp).2.of_block (h.block _ (l7 p hp).2.lt (by have := (l7 p hp).1; simp at this; omega))⟩⟩)
      have HB1 := hid (HB0.out.trans (hb1.mono (by simp)))
      have hsz : w.heap.size < w1.heap.size := by have := hb1.size; simp at this; omega
      obtain ⟨hc, hf⟩ := bcell hb1
      obtain ⟨n', hn'⟩ : ∃ n', Hid (L'.length = n') := ⟨_, rfl⟩
      rw [hn'.out] at HM1 HOUT
      rw [hn'.out]
      clear l1 l2 l3 l4 l5 l6 l7 v1 v2 hL0 hb1
      go_wp2_with fail
      refine (HM1.out _ ((Below.refl _ _).alloc (Nat.le_refl _) _)).mono ?_
      rintro r w2 ⟨rfl, hb2⟩
      have HB2 := hid hb2
      have hsz2 : w1.heap.size < w2.heap.size := by have := hb2.size; simp at this; omega
      have hsz3 : w.heap.size < w1.heap.size + 1 := by omega
      obtain ⟨hc2, hf2⟩ := bcell hb2
      clear hb2
      go_wp2
      have HBT : Hid (But w.heap.size w1 w2) := (But.of_below ((Below.refl _ _).alloc (Nat.le_refl _) _)).trans (But.of_below HB2.out)
      exact bodyPost_ret (v := .tuple #[.agg #[.bool neg, .slice a' n' cap', .int .i64 (E + (z : Int))], .int .i64 0]) (by simp [results, Tryz.results113, go_sem, hc2, hc, hsz, hsz3]) rfl ⟨HOUT.out _ (((HBT.out.setCell 0 _).setCell 1 _).setCell 2 _), Below.setCell (Below.setCell (Below.setCell (HB1.out.trans (((Below.refl _ _).alloc (Nat.le_refl _) _).trans (HB2.out.mono (by simp)) |>.mono (by omega))) (Nat.le_refl _) _) (Nat.le_refl _) _) (Nat.le_refl _) _⟩
theorem written_any (neg : Bool) (L : List Nat) (a : Option Addr) (cap : Nat) (e : Int) (w : World) (hm : MagAt w a L) (hD : DigL L) (hC : CanL L) (hcap : L.length ≤ cap) (hl : L.length ≤ 2048) (he1 : -100000 ≤ e) (he2 : e + 32 * L.length ≤ 99900) (hT : Tab32 w) (hs : 1 < w.heap.size) :
    Calls Tryz.prog 113 #[.bool neg, .slice a L.length cap, .int .i64 e] w fun r w' => DyOut (intL neg L) e w.heap.size r w' ∧ Below w.heap.size w w' := by
  by_cases h0 : L = []
  · subst h0
    have e0 : intL neg [] = 0 := by unfold intL; cases neg <;> rfl
    rw [e0]
    exact written_nil neg a cap e w
  · have hl0 : L.length ≠ 0 := fun c => h0 (List.length_eq_zero_iff.1 c)
    obtain ⟨b, off, rfl, hb, _⟩ := hm 0 (by omega)
    exact written_some neg L b off cap e w hm hD hC h0 hcap hl he1 he2 hT hs
end Go.Proofs.YtpjdmhidhllbkaaGreatDoor
