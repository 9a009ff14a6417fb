
/- What the document's left does. -/
import Derived.Test.YtehnkgonhgjeiaaGreatDoorP4
import Derived.Deep.OwnRows
import Derived.Deep.RegionHeld3
namespace Go.Proofs.YtehnkgonhgjeiaaGreatDoor
open Go.RowKit Go.IntWalk

/-- The number of which the first n words are told by a function. -/
def natF (o : Nat → Nat) : Nat → Nat
  | 0 => 0
  | n + 1 => natF o n + 4294967296 ^ n * o n
theorem natF_congr (o p : Nat → Nat) (n : Nat) (h : ∀ j, j < n → o j = p j) : natF o n = natF p n := by
  induction n with
  | zero => rfl
  | succ n ih =>
    show natF o n + _ * o n = natF p n + _ * p n
    rw [ih (fun j hj => h j (by omega)), h n (by omega)]
theorem natF_zero (n : Nat) : natF (fun _ => 0) n = 0 := by
  induction n with
  | zero => rfl
  | succ n ih => show natF _ n + _ * 0 = 0; rw [ih]; rfl
/-- One word more or other. -/
theorem natF_set (o : Nat → Nat) (n i v : Nat) (hi : i < n) : natF (fun j => if j = i then v else o j) n + 4294967296 ^ i * o i = natF o n + 4294967296 ^ i * v := by
  induction n with
  | zero => omega
  | succ n ih =>
    show natF _ n + 4294967296 ^ n * (if n = i then v else o n) + _ = natF o n + 4294967296 ^ n * o n + _
    by_cases h : n = i
    · subst h
      rw [if_pos rfl, natF_congr _ o n (fun j hj => if_neg (by omega))]
      omega
    · rw [if_neg h]
      have := ih (by omega)
      omega
theorem natF_list (o : Nat → Nat) (n : Nat) : natL ((List.range n).map o) = natF o n := by
  induction n with
  | zero => rfl
  | succ n ih =>
    rw [List.range_succ, List.map_append, natL_append, ih, List.length_map, List.length_range]
    show _ + _ * (o n + 4294967296 * 0) = _ + _ * o n
    rw [Nat.mul_zero, Nat.add_zero]
theorem list_get (o : Nat → Nat) (n i : Nat) (hi : i < n) : ((List.range n).map o).getD i 0 = o i := by
  simp [List.getD, hi]
theorem or_low (x0 lo s : Nat) (hs : s < 32) (h0 : x0 < 2 ^ s) (h1 : lo < 4294967296) (h2 : lo % 2 ^ s = 0) : bits .or .u32 (x0 : Int) (lo : Int) = ((x0 + lo : Nat) : Int) := by
  have hx : x0 < 4294967296 := Nat.lt_of_lt_of_le h0 (by have : (2 : Nat) ^ s ≤ 2 ^ 32 := Nat.pow_le_pow_right (by decide) (by omega); simpa using this)
  rw [u32_or_nat x0 lo hx h1]
  congr 1
  obtain ⟨c, hc⟩ : ∃ c, lo = 2 ^ s * c := ⟨lo / 2 ^ s, by have := Nat.div_add_mod lo (2 ^ s); omega⟩
  rw [hc, Nat.or_comm, Nat.add_comm]
  exact (Nat.two_pow_add_eq_or_of_lt h0 c).symm
theorem infoU : (Tryz.prog.info? 92).map (fun i => (i.zero, i.size, i.bytes)) = some (some (.int .u32 0), 1, 4) := by kernel_rfl
/-- What one round of left does to the words. -/
def leftW (o : Nat → Nat) (p t : Nat) : Nat → Nat := fun j => if j = p + 1 then t / 4294967296 else if j = p then o p + t % 4294967296 else o j
theorem leftW_val (o : Nat → Nat) (p t M : Nat) (hp : p + 1 < M) (hz : o (p + 1) = 0) : natF (leftW o p t) M = natF o M + 4294967296 ^ p * t := by
  have h1 := natF_set o M p (o p + t % 4294967296) (by omega)
  have h2 := natF_set (fun j => if j = p then o p + t % 4294967296 else o j) M (p + 1) (t / 4294967296) hp
  rw [if_neg (by omega), hz, Nat.mul_zero, Nat.add_zero] at h2
  have e : natF (leftW o p t) M = natF (fun j => if j = p + 1 then t / 4294967296 else if j = p then o p + t % 4294967296 else o j) M := rfl
  rw [e, h2, Nat.pow_succ]
  have ht : t = 4294967296 * (t / 4294967296) + t % 4294967296 := (Nat.div_add_mod t 4294967296).symm
  have h3 : 4294967296 ^ p * t = 4294967296 ^ p * 4294967296 * (t / 4294967296) + 4294967296 ^ p * (t % 4294967296) := by
    conv => lhs; rw [ht]
    rw [Nat.mul_add, Nat.mul_assoc]
  rw [Nat.mul_add] at h1
  omega
theorem low_sum (x l P Q W : Nat) (hW : P * Q = W) (hx : x < P) (hl : l < W) (hm : l % P = 0) : x + l < W := by
  have hd := Nat.div_add_mod l P
  rw [hm, Nat.add_zero] at hd
  have hlt : l / P < Q := by
    rw [← hW, ← hd] at hl
    exact Nat.lt_of_mul_lt_mul_left hl
  have : P * (l / P + 1) ≤ P * Q := Nat.mul_le_mul_left _ hlt
  rw [Nat.mul_add, Nat.mul_one] at this
  omega
theorem shl_wb (m k : Nat) (h : m * 2 ^ k < 18446744073709551616) : IntKind.u64.wrap ((m : Int) * 2 ^ k) = ((m * 2 ^ k : Nat) : Int) := by
  have e : (m : Int) * 2 ^ k = ((m * 2 ^ k : Nat) : Int) := by rw [Int.natCast_mul, Int.natCast_pow]; rfl
  rw [IntKind.wrap_u64, e]
  omega
/-- What holds ahead of the k-th round. -/
def LInv (L : List Nat) (q s M : Nat) (o : Nat → Nat) (k : Nat) : Prop := natF o M = natL (L.take k) * 2 ^ (32 * q + s) ∧ (∀ j, q + k < j → o j = 0) ∧ o (q + k) < 2 ^ s ∧ ∀ j, o j < 4294967296
theorem LInv.zero (L : List Nat) (q s M : Nat) : LInv L q s M (fun _ => 0) 0 := ⟨by rw [natF_zero]; show 0 = 0 * _; rw [Nat.zero_mul], fun _ _ => rfl, Nat.two_pow_pos s, fun _ => (show 0 < 4294967296 by decide)⟩
theorem pow32 (a : Nat) : 4294967296 ^ a = 2 ^ (32 * a) := by rw [show (4294967296 : Nat) = 2 ^ 32 by decide, ← Nat.pow_mul]
theorem shl_lt (d s : Nat) (hd : d < 4294967296) (hs : s < 32) : d * 2 ^ s < 18446744073709551616 ∧ d * 2 ^ s / 4294967296 < 2 ^ s ∧ d * 2 ^ s % 4294967296 % 2 ^ s = 0 ∧ 2 ^ s ≤ 4294967296 := by
  have hp := Nat.two_pow_pos s
  have h1 : (2 : Nat) ^ s ≤ 2 ^ 32 := Nat.pow_le_pow_right (by decide) (by omega)
  have h32 : (2 : Nat) ^ 32 = 4294967296 := by decide
  rw [h32] at h1
  have h2 : d * 2 ^ s < 4294967296 * 2 ^ s := Nat.mul_lt_mul_of_pos_right hd hp
  have h3 : 4294967296 * 2 ^ s ≤ 4294967296 * 4294967296 := Nat.mul_le_mul_left _ h1
  refine ⟨by omega, ?_, ?_, h1⟩
  · rw [Nat.div_lt_iff_lt_mul (by decide), Nat.mul_comm (2 ^ s)]; exact h2
  · have e : (4294967296 : Nat) = 2 ^ s * 2 ^ (32 - s) := by rw [← Nat.pow_add, Nat.add_sub_cancel' (by omega)]
    rw [e, Nat.mod_mul_right_mod, Nat.mul_mod_left]
theorem LInv.step {L : List Nat} {q s M : Nat} {o : Nat → Nat} {k : Nat} (h : LInv L q s M o k) (hk : k < L.length) (hM : q + L.length + 1 = M) (hs : s < 32) (hD : DigL L) : LInv L q s M (leftW o (q + k) (L.getD k 0 * 2 ^ s)) (k + 1) := by
  obtain ⟨h1, h2, h3, h4⟩ := h
  obtain ⟨t1, t2, t3, t4⟩ := shl_lt (L.getD k 0) s (hD.get k) hs
  obtain ⟨t, ht⟩ : ∃ t, L.getD k 0 * 2 ^ s = t := ⟨_, rfl⟩
  rw [ht] at t1 t2 t3 ⊢
  refine ⟨?_, fun j hj => ?_, ?_, fun j => ?_⟩
  · rw [leftW_val o (q + k) t M (by omega) (h2 _ (by omega)), h1, natL_take_succ L k hk, ← ht, pow32, pow32, Nat.add_mul]
    congr 1
    rw [Nat.mul_comm (L.getD k 0), ← Nat.mul_assoc, ← Nat.pow_add, Nat.mul_comm (2 ^ (32 * k)), Nat.mul_assoc, ← Nat.pow_add, Nat.mul_comm]
    congr 2
    omega
  · unfold leftW
    rw [if_neg (by omega), if_neg (by omega)]
    exact h2 j (by omega)
  · unfold leftW
    rw [if_pos (by omega)]
    exact t2
  · unfold leftW
    split
    · omega
    · split
      · exact low_sum _ _ (2 ^ s) (2 ^ (32 - s)) 4294967296 (by rw [← Nat.pow_add, Nat.add_sub_cancel' (by omega)]) h3 (Nat.mod_lt _ (by decide)) t3
      · exact h4 j
/-- What left answers: new words. -/
def LeftOk (L : List Nat) (q s B : Nat) (L' : List Nat) (w' : World) : Prop := L'.length ≤ q + L.length + 1 ∧ MagAt w' (some ⟨B, 0, none⟩) L' ∧ DigL L' ∧ CanL L' ∧ natL L' = natL L * 2 ^ (32 * q + s)
theorem left_row (o : Nat → Nat) (P T x0 lo hi y j : Nat) (h1 : o P = x0) (h2 : T % 4294967296 = lo) (h3 : T / 4294967296 = hi) (h4 : x0 + lo = y) : (if j = P + 1 then Value.int .u32 (hi : Int) else if j = P then Value.int .u32 (y : Int) else Value.int .u32 (o j : Int)) = Value.int .u32 (leftW o P T j : Int) := by
  unfold leftW
  by_cases c : j = P + 1
  · rw [if_pos c, if_pos c, h3]
  · rw [if_neg c, if_neg c]
    by_cases c2 : j = P
    · rw [if_pos c2, if_pos c2, h1, h2, h4]
    · rw [if_neg c2, if_neg c2]
theorem row_mag (w : World) (B M : Nat) (T : TypeId) (o : Nat → Nat) (h : w.rowIs B T M (fun j => .int .u32 (o j))) : MagAt w (some ⟨B, 0, none⟩) ((List.range M).map o) := by
  intro i hi
  rw [List.length_map, List.length_range] at hi
  refine ⟨B, 0, rfl, h.lt, ?_⟩
  rw [list_get o M i hi, Nat.zero_add]
  exact h.cell hi
set_option maxRecDepth 4000 in
set_option maxHeartbeats 1000000 in
theorem left_loop (L : List Nat) (b off cap q s : Nat) (w : World) (hb : b < w.heap.size) (hcell : ∀ i, i < L.length → w.cell? ⟨b, off + i, none⟩ = some (.int .u32 (L.getD i 0))) (h0 : L.length ≠ 0) (hs : s < 32) (hq : q ≤ 1000000) (hn : L.length ≤ 1000000) (hD : DigL L) :
    Calls Tryz.prog 158 #[.slice (some ⟨b, off, none⟩) L.length cap, .int .u64 ((32 * q + s : Nat) : Int)] w fun r w' => (∃ L' : List Nat, r = .returned (.slice (some ⟨w.heap.size, 0, none⟩) L'.length (q + L.length + 1)) ∧ LeftOk L q s w.heap.size L' w') ∧ Below w.heap.size w w' := by
  have HC := hid hcell
  have HB := hid hb
  have HS := hid hs
  obtain ⟨n, hnl⟩ : ∃ n, Hid (L.length = n) := ⟨_, rfl⟩
  rw [hnl.out] at hn h0 ⊢
  obtain ⟨N, hN⟩ : ∃ N : Int, Hid (((32 * q + s : Nat) : Int) = N) := ⟨_, rfl⟩
  rw [hN.out]
  have hdiv : N / 32 = (q : Int) := by have := hN.out; omega
  have hmod : N % 32 = (s : Int) := by have := hN.out; omega
  have hn0 : ((n : Int) == 0) = false := by simpa using h0
  obtain ⟨M, hM⟩ : ∃ M, Hid (q + n + 1 = M) := ⟨_, rfl⟩
  have hM1 : IntKind.i64.wrap (IntKind.i64.wrap ((q : Int) + (n : Int)) + 1) = (M : Int) := by have := hM.out; rw [IntWalk.i64_in ((q : Int) + (n : Int)) (by omega), IntWalk.i64_in _ (by omega)]; omega
  have hM2 : (q : Int) + (n : Int) + 1 = (M : Int) := by have := hM.out; omega
  have hmk := run_make_row' (P := Tryz.prog) 39 92 (.int .u32 0) 4 Tryz.underlying39 infoU rfl .i64 .i64 M (by have := hM.out; omega) (by have := hM.out; omega)
  rw [hM.out]
  clear hcell h0 hb hs
  go_enter Tryz.func158, Tryz.ntmps158
  go_wp2
  go_loopw [8] (fun i wr => ∃ (k : Nat) (o : Nat → Nat), k ≤ n ∧ i = .int .i64 k ∧ Hid (wr.rowIs w.heap.size 92 M (fun j => .int .u32 (o j))) ∧ Hid (LInv L q s M o k) ∧ Hid (Below w.heap.size w wr)) (fun i _ => n - (intOf i).toNat)
  case atStart => exact ⟨0, fun _ => 0, Nat.zero_le _, rfl, World.rowIs_made w (.int .u32 0) M _, LInv.zero L q s M, (Below.refl _ _).alloc (Nat.le_refl _) _⟩
  case round =>
    obtain ⟨k, o, hkn, rfl, HR, HI, HBW⟩ := hrel
    by_cases hlt : k < n
    · have hck : wr.cell? ⟨b, off + k, none⟩ = some (.int .u32 (L.getD k 0)) := by
        rw [HBW.out.cell (p := ⟨b, off + k, none⟩) HB.out]
        exact HC.out k (by rw [hnl.out]; exact hlt)
      have hdl := hD.get k
      have HST := hid (HI.out.step (by rw [hnl.out]; exact hlt) (by rw [hnl.out]; exact hM.out) HS.out hD)
      obtain ⟨t1, t2, t3, t4⟩ := shl_lt (L.getD k 0) s hdl HS.out
      obtain ⟨i1, i2, i3, i4⟩ := HI.out
      obtain ⟨d, hd⟩ : ∃ d, Hid (L.getD k 0 = d) := ⟨_, rfl⟩
      rw [hd.out] at hck hdl HST t1 t2 t3
      have hsh := shl_wb d s t1
      obtain ⟨T, hT⟩ : ∃ T, Hid (d * 2 ^ s = T) := ⟨_, rfl⟩
      rw [hT.out] at hsh t1 t2 t3 HST
      have hwd : IntKind.u64.wrap (d : Int) = (d : Int) := by rw [IntKind.wrap_u64]; omega
      have hmin : min s 64 = s := Nat.min_eq_left (by have := HS.out; omega)
      obtain ⟨P, hP⟩ : ∃ P, Hid (q + k = P) := ⟨_, rfl⟩
      have hP1 : IntKind.i64.wrap ((q : Int) + (k : Int)) = (P : Int) := by have := hP.out; rw [IntWalk.i64_in _ (by omega)]; omega
      have hP2 : (q : Int) + (k : Int) = (P : Int) := by have := hP.out; omega
      have hPM : P + 1 < M := by have := hP.out; have := hM.out; omega
      have hPI : (P : Int) < (M : Int) := by omega
      have hPI2 : (P : Int) + 1 < (M : Int) := by omega
      rw [hP.out] at i3 HST
      have cx := HR.out.cell (i := P) (by omega)
      have cy := HR.out.cell (i := P + 1) (by omega)
      have fx := HR.out.frozen
      have hlt2 := HR.out.lt
      obtain ⟨x0, hx0⟩ : ∃ x0, Hid (o P = x0) := ⟨_, rfl⟩
      rw [hx0.out] at cx i3
      obtain ⟨lo, hlo⟩ : ∃ lo, Hid (T % 4294967296 = lo) := ⟨_, rfl⟩
      obtain ⟨hi, hhi⟩ : ∃ hi, Hid (T / 4294967296 = hi) := ⟨_, rfl⟩
      have hl1 : IntKind.u32.wrap (T : Int) = (lo : Int) := by have := hlo.out; rw [IntKind.wrap_u32]; omega
      have hh1 : IntKind.u32.wrap ((T : Int) / 4294967296) = (hi : Int) := by have := hhi.out; have := t1; rw [IntKind.wrap_u32]; omega
      have hor := or_low x0 lo s HS.out i3 (by have := hlo.out; omega) (by rw [← hlo.out]; exact t3)
      obtain ⟨y, hy⟩ : ∃ y, Hid (x0 + lo = y) := ⟨_, rfl⟩
      rw [hy.out] at hor
      have HT1 := hid t1
      clear i1 i2 i3 i4 t1 t2 t3 t4 hdl
      go_wp2
      go_roundw
      case rel =>
        refine ⟨k + 1, leftW o P T, by omega, by go_num, ?_, HST, ?_⟩
        · exact ((HR.out.set P _).set (P + 1) _).congr (fun j _ => left_row o P T x0 lo hi y j hx0.out hlo.out hhi.out hy.out)
        · exact Below.setCell (Below.setCell HBW.out (Nat.le_refl _) _) (Nat.le_refl _) _
      case measure => simp [intOf]; omega
    · have hkn' : k = n := by omega
      subst hkn'
      have HL := hid (show ((List.range M).map o).length = M by rw [List.length_map, List.length_range])
      have HCUT := hid (bcut_any ((List.range M).map o) (some ⟨w.heap.size, 0, none⟩) M wr (row_mag wr _ M _ o HR.out) (by rw [HL.out]; exact Nat.le_refl _) (by rw [HL.out]; have := hM.out; omega))
      rw [HL.out] at HCUT
      go_wp2_with fail
      refine HCUT.out.mono ?_
      rintro r w1 ⟨⟨j, hj, rfl, hv, he⟩, rfl⟩
      have hDo : DigL ((List.range M).map o) := by
        intro d hd
        obtain ⟨i, _, rfl⟩ := List.mem_map.1 hd
        exact HI.out.2.2.2 i
      obtain ⟨hcan, hlen⟩ := can_take _ j (by rw [HL.out]; exact hj) he
      have HF : Hid (LeftOk L q s w.heap.size (((List.range M).map o).take j) w1) := by
        refine ⟨by rw [hlen, hnl.out]; have := hM.out; omega, (row_mag w1 _ M _ o HR.out).take j, hDo.take j, hcan, ?_⟩
        rw [hv, natF_list, HI.out.1]
        congr 2
        rw [← hnl.out, List.take_length]
      have HLE := hid hlen
      clear hv he hcan hlen hDo hj
      go_wp2
      go_ret
      exact ⟨⟨((List.range M).map o).take j, by rw [HLE.out]; rfl, HF.out⟩, HBW.out⟩
end Go.Proofs.YtehnkgonhgjeiaaGreatDoor

namespace Go.Proofs.YtehnkgonhgjeiaaGreatDoor
open Go.RowKit Go.IntWalk

/-- What a function of magnitudes answers: words of a value, that need no cutting. -/
def MagOk (v bound : Nat) (r : Ending) (w' : World) : Prop := ∃ (L' : List Nat) (a' : Option Addr) (cap' : Nat), r = .returned (.slice a' L'.length cap') ∧ L'.length ≤ cap' ∧ L'.length ≤ bound ∧ MagAt w' a' L' ∧ DigL L' ∧ CanL L' ∧ natL L' = v
theorem MagOk.nil (bound : Nat) (w : World) (a : Option Addr) (cap : Nat) : MagOk 0 bound (.returned (.slice a 0 cap)) w :=
  ⟨[], a, cap, rfl, Nat.zero_le _, Nat.zero_le _, fun _ hi => absurd hi (Nat.not_lt_zero _), fun _ hd => absurd hd List.not_mem_nil, fun h => absurd rfl h, rfl⟩
set_option maxHeartbeats 400000 in
theorem left_nil (cap : Nat) (a : Option Addr) (N : Int) (w : World) :
    Calls Tryz.prog 158 #[.slice a 0 cap, .int .u64 N] w fun r w' => r = .returned (.slice none 0 0) ∧ w' = w := by
  go_enter Tryz.func158, Tryz.ntmps158
  go_wp2
  go_ret
  exact ⟨rfl, rfl⟩
theorem left_any (L : List Nat) (a : Option Addr) (cap q s : Nat) (w : World) (hm : MagAt w a L) (hs : s < 32) (hq : q ≤ 1000000) (hn : L.length ≤ 1000000) (hD : DigL L) :
    Calls Tryz.prog 158 #[.slice a L.length cap, .int .u64 ((32 * q + s : Nat) : Int)] w fun r w' => MagOk (natL L * 2 ^ (32 * q + s)) (q + L.length + 1) r w' ∧ Below w.heap.size w w' := by
  by_cases h0 : L.length = 0
  · have hl : L = [] := List.length_eq_zero_iff.1 h0
    subst hl
    refine (left_nil cap a _ w).mono ?_
    rintro r w' ⟨rfl, rfl⟩
    refine ⟨?_, Below.refl _ _⟩
    rw [show natL [] * 2 ^ (32 * q + s) = 0 from Nat.zero_mul _]
    exact MagOk.nil _ _ _ _
  · obtain ⟨b, off, rfl, hb, _⟩ := hm 0 (by omega)
    refine (left_loop L b off cap q s w hb (fun i hi => ?_) h0 hs hq hn hD).mono ?_
    · obtain ⟨b', off', e, _, hc⟩ := hm i hi
      cases e
      exact hc
    · rintro r w' ⟨⟨L', rfl, h1, h2, h3, h4, h5⟩, hb⟩
      exact ⟨⟨L', _, _, rfl, h1, h1, h2, h3, h4, h5⟩, hb⟩
/-- All is as it was but z, which is a whole number's block still. -/
def ZOk (z : Nat) (w w' : World) : Prop := But z w w' ∧ ∃ neg0 a0 n0 cap0, w'.heap[z]? = some (.cells #[.bool neg0, .slice a0 n0 cap0] 90)
theorem ZOk.below {z : Nat} {w w1 w2 : World} (h : ZOk z w w1) (hb : Below w1.heap.size w1 w2) : ZOk z w w2 := by
  obtain ⟨h1, a, b, c, d, h2⟩ := h
  exact ⟨h1.trans (But.of_below hb), a, b, c, d, by rw [hb.block z (int_cells h2).2.2.2]; exact h2⟩
theorem ZOk.drew {z : Nat} {w w1 : World} (h : ZOk z w w1) : ZOk z w w1.drew := h.below (Below.refl _ _).drew
theorem ZOk.big {z : Nat} {w w1 w2 : World} {neg : Bool} {L : List Nat} (_ : ZOk z w w1) (hb : But z w w2) (h2 : BigAt w2 z neg L) : ZOk z w w2 := by
  obtain ⟨a, cap, ho, _⟩ := h2
  exact ⟨hb, _, _, _, _, ho⟩
theorem But.cell {z : Nat} {w w' : World} (h : But z w w') {x o : Nat} {v : Value} (hc : w.cell? ⟨x, o, none⟩ = some v) (hx : x ≠ z) : w'.cell? ⟨x, o, none⟩ = some v := by
  rw [← hc]
  exact World.cell?_of_block (h.block x (World.block_lt_of_cell? w _ hc) hx)
/-- What a function of magnitudes has answered, its value taken apart. -/
def MagIs (v bound : Nat) (L' : List Nat) (a' : Option Addr) (cap' : Nat) (w' : World) : Prop := L'.length ≤ cap' ∧ L'.length ≤ bound ∧ MagAt w' a' L' ∧ DigL L' ∧ CanL L' ∧ natL L' = v
theorem put_is (z : Nat) (neg : Bool) (v bound : Nat) (w w1 : World) (L' : List Nat) (a' : Option Addr) (cap' : Nat) (hz : ZOk z w w1) (hM : MagIs v bound L' a' cap' w1) (hbd : bound ≤ 1099511627776) :
    Calls Tryz.prog 119 #[.pointer (some ⟨z, 0, none⟩), .bool neg, .slice a' L'.length cap'] w1 fun r w' => r = .returned (.pointer (some ⟨z, 0, none⟩)) ∧ ∃ L', natL L' = v ∧ L'.length ≤ bound ∧ BigAt w' z (neg && decide (v ≠ 0)) L' ∧ But z w w' := by
  obtain ⟨h1, h2, h3, h4, h5, h6⟩ := hM
  obtain ⟨hb, neg0, a0, n0, cap0, ho⟩ := hz
  have := put_any z neg neg0 a' a0 n0 cap' cap0 L' w1 ho h3 h4 h1 (by omega)
  refine this.mono ?_
  rintro r w' ⟨rfl, M, e1, e2, e3, e4⟩
  exact ⟨rfl, M, e1.trans h6, by omega, by rw [← h6]; exact e3, hb.trans e4⟩
/-- What a method leaves: z holds that number, all else is as it was. -/
def PutIs (z : Nat) (neg : Bool) (v bound : Nat) (w w' : World) : Prop := ∃ L', natL L' = v ∧ L'.length ≤ bound ∧ BigAt w' z neg L' ∧ But z w w'
set_option maxHeartbeats 1000000 in
theorem Lsh_any (z x : Nat) (neg : Bool) (q s : Nat) (L : List Nat) (w : World) (hz : ZOk z w w) (hxz : x ≠ z) (hx : BigAt w x neg L) (hs : s < 32) (hq : q ≤ 1000000) (hn : L.length ≤ 1000000) :
    Calls Tryz.prog 126 #[.pointer (some ⟨z, 0, none⟩), .pointer (some ⟨x, 0, none⟩), .int .u64 ((32 * q + s : Nat) : Int)] w fun r w' => r = .returned (.pointer (some ⟨z, 0, none⟩)) ∧ PutIs z neg (natL L * 2 ^ (32 * q + s)) (q + L.length + 1) w w' := by
  have HX := hid hx
  obtain ⟨a, cap, ho, hcap, hm, hd, hc, hneg⟩ := hx
  obtain ⟨c0, c1, hf, hlt⟩ := int_cells ho
  have HL : Hid (∀ w', ZOk z w w' → Calls Tryz.prog 158 #[.slice a L.length cap, .int .u64 ((32 * q + s : Nat) : Int)] w' fun r w1 => ∃ L' a' cap', r = .returned (.slice a' L'.length cap') ∧ Hid (MagIs (natL L * 2 ^ (32 * q + s)) (q + L.length + 1) L' a' cap' w1) ∧ Hid (ZOk z w w1)) := by
    intro w' hw
    obtain ⟨hb, hzz⟩ := hw
    obtain ⟨_, neg0, a0, n0, cap0, hoz⟩ := hz
    refine (left_any L a cap q s w' (hm.but hb (fun b off e h0 => ?_)) hs hq hn hd).mono ?_
    · obtain ⟨b', off', e', hne⟩ := mag_ne hoz hm h0
      rw [e] at e'
      cases e'
      exact hne
    · rintro r w1 ⟨⟨L', a', cap', hr, h1⟩, hb1⟩
      exact ⟨L', a', cap', hr, h1, ZOk.below ⟨hb, hzz⟩ hb1⟩
  have HN : Hid ((neg && decide (natL L * 2 ^ (32 * q + s) ≠ 0)) = neg) := by
    cases neg
    · rfl
    · have hne : L ≠ [] := fun c => by have := hneg c; simp at this
      have h1 : natL L ≠ 0 := fun c => hne ((natL_zero L hc).1 c)
      have h2 : 0 < natL L * 2 ^ (32 * q + s) := Nat.mul_pos (by omega) (Nat.two_pow_pos _)
      show (true && _) = true
      rw [Bool.true_and, decide_eq_true_eq]
      omega
  obtain ⟨v, hv⟩ : ∃ v, Hid (natL L * 2 ^ (32 * q + s) = v) := ⟨_, rfl⟩
  obtain ⟨bd, hbd⟩ : ∃ bd, Hid (q + L.length + 1 = bd) := ⟨_, rfl⟩
  rw [hv.out] at HL HN ⊢
  rw [hbd.out] at HL ⊢
  have HP : Hid (∀ w1 L' a' cap', Hid (ZOk z w w1) → Hid (MagIs v bd L' a' cap' w1) → Calls Tryz.prog 119 #[.pointer (some ⟨z, 0, none⟩), .bool neg, .slice a' L'.length cap'] w1 fun r w' => r = .returned (.pointer (some ⟨z, 0, none⟩)) ∧ Hid (PutIs z neg v bd w w') ∧ Hid (ZOk z w w')) := by
    intro w1 L' a' cap' h1 h2
    refine (put_is z neg v bd w w1 L' a' cap' h1.out h2.out (by have := hbd.out; omega)).mono ?_
    rintro r w' ⟨rfl, L', e1, e2, e3, e4⟩
    rw [HN.out] at e3
    exact ⟨rfl, ⟨L', e1, e2, e3, e4⟩, ZOk.big h1.out e4 e3⟩
  have HK : Hid (∀ w', Hid (ZOk z w w') → (w'.cell? ⟨x, 0, none⟩ = some (.bool neg) ∧ w'.cell? ⟨x, 1, none⟩ = some (.slice a L.length cap)) ∧ Hid (ZOk z w w')) := fun w' h => ⟨⟨h.out.1.cell c0 hxz, h.out.1.cell c1 hxz⟩, h⟩
  have HZ : Hid (ZOk z w w.drew) := hz.drew
  obtain ⟨N, hN⟩ : ∃ N : Int, Hid (((32 * q + s : Nat) : Int) = N) := ⟨_, rfl⟩
  rw [hN.out] at HL ⊢
  obtain ⟨n, hnl⟩ : ∃ n, Hid (L.length = n) := ⟨_, rfl⟩
  rw [hnl.out] at HL HK c1
  clear hz hs hq hn hm hd hc hneg ho hcap hf hxz
  go_enter Tryz.func126, Tryz.ntmps126
  go_wp2_with fail
  go_region_held3 (fun w' => (w'.cell? ⟨x, 0, none⟩ = some (.bool neg) ∧ w'.cell? ⟨x, 1, none⟩ = some (.slice a n cap)) ∧ Hid (ZOk z w w')) (exact HK.out _ (by assumption))
    (first
      | (go_at_call 158; refine (HL.out _ (Hid.out (And.right (by assumption)))).mono ?_; rintro r w1 ⟨L', a', cap', rfl, HM, HZ1⟩)
      | (go_at_call 119; refine (HP.out _ _ _ _ (by assumption) (by assumption)).mono ?_; rintro r w1 ⟨rfl, HE, HZ2⟩))
  all_goals go_wp2
  all_goals go_ret
  all_goals exact ⟨rfl, Hid.out (by assumption)⟩
end Go.Proofs.YtehnkgonhgjeiaaGreatDoor

namespace Go.Proofs.YtehnkgonhgjeiaaGreatDoor
open Go.RowKit Go.IntWalk

theorem natF_digits (Y k : Nat) : natF (fun i => Y / 4294967296 ^ i % 4294967296) k = Y % 4294967296 ^ k := by
  induction k with
  | zero => show 0 = Y % 1; omega
  | succ k ih =>
    show natF _ k + 4294967296 ^ k * (Y / 4294967296 ^ k % 4294967296) = _
    rw [ih, Nat.mod_pow_succ]
theorem natL_drop (L : List Nat) (j : Nat) : natL (L.drop j) = L.getD j 0 + 4294967296 * natL (L.drop (j + 1)) := by
  by_cases h : j < L.length
  · rw [List.drop_eq_getElem_cons h]
    show L[j] + _ = _
    simp [List.getD, h]
  · rw [List.drop_eq_nil_of_le (by omega), List.drop_eq_nil_of_le (by omega)]
    simp [List.getD, h, natL]
theorem natL_div (L : List Nat) (hD : DigL L) (j : Nat) : natL L / 4294967296 ^ j = natL (L.drop j) := by
  by_cases h : j ≤ L.length
  · have e := natL_append (L.take j) (L.drop j)
    rw [List.take_append_drop, List.length_take, Nat.min_eq_left h] at e
    have hlt := natL_lt (L.take j) (hD.take j)
    rw [List.length_take, Nat.min_eq_left h] at hlt
    rw [e, Nat.add_mul_div_left _ _ (Nat.pow_pos (by decide)), Nat.div_eq_of_lt hlt, Nat.zero_add]
  · rw [List.drop_eq_nil_of_le (by omega)]
    have h1 := natL_lt L hD
    have h2 : 4294967296 ^ L.length ≤ 4294967296 ^ j := Nat.pow_le_pow_right (by decide) (by omega)
    exact Nat.div_eq_of_lt (by omega)
/-- A word of the shifted number. -/
def rWord (L : List Nat) (q s k : Nat) : Nat := natL L / 2 ^ (32 * q + s) / 4294967296 ^ k % 4294967296
theorem rWord_is (L : List Nat) (hD : DigL L) (q s k : Nat) (hs : s < 32) : (L.getD (q + k) 0 + 4294967296 * L.getD (q + k + 1) 0) / 2 ^ s % 4294967296 = rWord L q s k := by
  unfold rWord
  rw [Nat.div_div_eq_div_mul, show 2 ^ (32 * q + s) * 4294967296 ^ k = 4294967296 ^ (q + k) * 2 ^ s by rw [pow32, pow32, ← Nat.pow_add, ← Nat.pow_add]; congr 1; omega, ← Nat.div_div_eq_div_mul, natL_div L hD, natL_drop, natL_drop]
  obtain ⟨d, hd⟩ : ∃ d, L.getD (q + k) 0 = d := ⟨_, rfl⟩
  obtain ⟨e, he⟩ : ∃ e, L.getD (q + k + 1) 0 = e := ⟨_, rfl⟩
  obtain ⟨r, hr⟩ : ∃ r, natL (List.drop (q + k + 1 + 1) L) = r := ⟨_, rfl⟩
  rw [hd, he, hr]
  have hB : (4294967296 : Nat) = 2 ^ s * 2 ^ (32 - s) := by rw [← Nat.pow_add, Nat.add_sub_cancel' (by omega)]
  have e1 : d + 4294967296 * (e + 4294967296 * r) = (d + 4294967296 * e) + 2 ^ s * (4294967296 * (2 ^ (32 - s) * r)) := by
    rw [Nat.mul_add, Nat.add_assoc]
    congr 2
    conv => lhs; rw [← Nat.mul_assoc, Nat.mul_comm 4294967296 4294967296, Nat.mul_assoc]
    rw [Nat.mul_left_comm (2 ^ s)]
    congr 1
    rw [← Nat.mul_assoc, ← hB]
  rw [e1, Nat.add_mul_div_left _ _ (Nat.two_pow_pos s), Nat.add_mul_mod_self_left]
theorem right_val (L : List Nat) (hD : DigL L) (q s M : Nat) (hM : L.length ≤ q + M) : natF (rWord L q s) M = natL L / 2 ^ (32 * q + s) := by
  show natF (fun i => natL L / 2 ^ (32 * q + s) / 4294967296 ^ i % 4294967296) M = _
  rw [natF_digits]
  apply Nat.mod_eq_of_lt
  have h1 := natL_lt L hD
  have h2 : 4294967296 ^ L.length ≤ 4294967296 ^ (q + M) := Nat.pow_le_pow_right (by decide) hM
  rw [Nat.div_lt_iff_lt_mul (Nat.two_pow_pos _)]
  have h3 : 4294967296 ^ (q + M) ≤ 4294967296 ^ M * 2 ^ (32 * q + s) := by
    rw [pow32, pow32, ← Nat.pow_add]
    exact Nat.pow_le_pow_right (by decide) (by omega)
  omega
set_option maxHeartbeats 400000 in
theorem right_nil (a : Option Addr) (n cap q s : Nat) (w : World) (hs : s < 32) (hq : q ≤ 1000000) (hn : n ≤ q) :
    Calls Tryz.prog 120 #[.slice a n cap, .int .u64 ((32 * q + s : Nat) : Int)] w fun r w' => r = .returned (.slice none 0 0) ∧ w' = w := by
  obtain ⟨N, hN⟩ : ∃ N : Int, Hid (((32 * q + s : Nat) : Int) = N) := ⟨_, rfl⟩
  rw [hN.out]
  have hdiv : N / 32 = (q : Int) := by have := hN.out; omega
  have hle : (n : Int) ≤ (q : Int) := by omega
  have hqi : (q : Int) ≤ 1000000 := by omega
  clear hs hq
  go_enter Tryz.func120, Tryz.ntmps120
  go_wp2
  go_ret
  exact ⟨rfl, rfl⟩
theorem right_row (L : List Nat) (q s k r j : Nat) (hr : rWord L q s k = r) : (if j = k then Value.int .u32 (r : Int) else Value.int .u32 ((if j < k then rWord L q s j else 0 : Nat) : Int)) = Value.int .u32 ((if j < k + 1 then rWord L q s j else 0 : Nat) : Int) := by
  by_cases c : j = k
  · subst c
    rw [if_pos rfl, if_pos (by omega), hr]
  · rw [if_neg c]
    by_cases c2 : j < k
    · rw [if_pos c2, if_pos (by omega)]
    · rw [if_neg c2, if_neg (by omega)]
set_option maxRecDepth 4000 in
set_option maxHeartbeats 1000000 in
theorem right_loop (L : List Nat) (b off cap q s : Nat) (w : World) (hb : b < w.heap.size) (hcell : ∀ i, i < L.length → w.cell? ⟨b, off + i, none⟩ = some (.int .u32 (L.getD i 0))) (h0 : q < L.length) (hs : s < 32) (hq : q ≤ 1000000) (hn : L.length ≤ 1000000) (hD : DigL L) :
    Calls Tryz.prog 120 #[.slice (some ⟨b, off, none⟩) L.length cap, .int .u64 ((32 * q + s : Nat) : Int)] w fun r w' => MagOk (natL L / 2 ^ (32 * q + s)) L.length r w' ∧ Below w.heap.size w w' := by
  have HC := hid hcell
  have HB := hid hb
  have HS := hid hs
  obtain ⟨n, hnl⟩ : ∃ n, Hid (L.length = n) := ⟨_, rfl⟩
  rw [hnl.out] at hn h0 ⊢
  obtain ⟨N, hN⟩ : ∃ N : Int, Hid (((32 * q + s : Nat) : Int) = N) := ⟨_, rfl⟩
  rw [hN.out]
  have hdiv : N / 32 = (q : Int) := by have := hN.out; omega
  have hmod : N % 32 = (s : Int) := by have := hN.out; omega
  have hqn : ¬ (n : Int) ≤ (q : Int) := by omega
  obtain ⟨M, hM⟩ : ∃ M, Hid (n - q = M) := ⟨_, rfl⟩
  have hM1 : IntKind.i64.wrap ((n : Int) - (q : Int)) = (M : Int) := by have := hM.out; rw [IntWalk.i64_in _ (by omega)]; omega
  have hM2 : (n : Int) - (q : Int) = (M : Int) := by have := hM.out; omega
  have hMn : q + M = n := by have := hM.out; omega
  have hmk := run_make_row' (P := Tryz.prog) 39 92 (.int .u32 0) 4 Tryz.underlying39 infoU rfl .i64 .i64 M (by have := hM.out; omega) (by have := hM.out; omega)
  have HMN := hid hMn
  clear hcell h0 hb hs hMn
  go_enter Tryz.func120, Tryz.ntmps120
  go_wp2
  go_loopw [8] (fun i wr => ∃ (k : Nat), k ≤ M ∧ i = .int .i64 k ∧ Hid (wr.rowIs w.heap.size 92 M (fun j => .int .u32 ((if j < k then rWord L q s j else 0 : Nat) : Int))) ∧ Hid (Below w.heap.size w wr)) (fun i _ => M - (intOf i).toNat)
  case atStart => exact ⟨0, Nat.zero_le _, rfl, (World.rowIs_made w (.int .u32 0) M _).congr (fun j _ => by rw [if_neg (Nat.not_lt_zero j)]; rfl), (Below.refl _ _).alloc (Nat.le_refl _) _⟩
  case round =>
    obtain ⟨k, hkM, rfl, HR, HBW⟩ := hrel
    by_cases hlt : k < M
    · obtain ⟨P, hP⟩ : ∃ P, Hid (q + k = P) := ⟨_, rfl⟩
      have hPn : P < n := by have := hP.out; have := HMN.out; omega
      have hPI : (P : Int) < (n : Int) := by omega
      have hP1 : IntKind.i64.wrap ((q : Int) + (k : Int)) = (P : Int) := by have := hP.out; rw [IntWalk.i64_in _ (by omega)]; omega
      have hP2 : (q : Int) + (k : Int) = (P : Int) := by have := hP.out; omega
      have hck : wr.cell? ⟨b, off + P, none⟩ = some (.int .u32 (L.getD P 0)) := by
        rw [HBW.out.cell (p := ⟨b, off + P, none⟩) HB.out]
        exact HC.out P (by rw [hnl.out]; exact hPn)
      have hdl := hD.get P
      have hel := hD.get (P + 1)
      have hrw := rWord_is L hD q s k HS.out
      rw [hP.out] at hrw
      have hmin : min s 64 = s := Nat.min_eq_left (by have := HS.out; omega)
      have hkI : (k : Int) < (M : Int) := by omega
      have fx := HR.out.frozen
      have hlt2 := HR.out.lt
      have cx := HR.out.cell (i := k) (by omega)
      rw [if_neg (Nat.lt_irrefl k)] at cx
      obtain ⟨d, hd⟩ : ∃ d, Hid (L.getD P 0 = d) := ⟨_, rfl⟩
      rw [hd.out] at hck hdl hrw
      have hwd : IntKind.u64.wrap (d : Int) = (d : Int) := by rw [IntKind.wrap_u64]; omega
      obtain ⟨r, hr⟩ : ∃ r, Hid (rWord L q s k = r) := ⟨_, rfl⟩
      have HROW : Hid (∀ j, (if j = k then Value.int .u32 (r : Int) else Value.int .u32 ((if j < k then rWord L q s j else 0 : Nat) : Int)) = Value.int .u32 ((if j < k + 1 then rWord L q s j else 0 : Nat) : Int)) := fun j => right_row L q s k r j hr.out
      rw [hr.out] at hrw
      have HF : Hid (wr.rowIs w.heap.size 92 M (fun j => .int .u32 ((if j < k then rWord L q s j else 0 : Nat) : Int)) ∧ Below w.heap.size w wr) := ⟨HR.out, HBW.out⟩
      clear HR HBW hr
      by_cases hc : P + 1 < n
      · have hck2 : wr.cell? ⟨b, off + (P + 1), none⟩ = some (.int .u32 (L.getD (P + 1) 0)) := by
          rw [HF.out.2.cell (p := ⟨b, off + (P + 1), none⟩) HB.out]
          exact HC.out (P + 1) (by rw [hnl.out]; exact hc)
        obtain ⟨e, he⟩ : ∃ e, Hid (L.getD (P + 1) 0 = e) := ⟨_, rfl⟩
        rw [he.out] at hck2 hel hrw
        have hwe : IntKind.u64.wrap (e : Int) = (e : Int) := by rw [IntKind.wrap_u64]; omega
        have hor := or_words d e hdl hel
        have hcI : (P : Int) + 1 < (n : Int) := by omega
        obtain ⟨T, hT⟩ : ∃ T, Hid (d + 4294967296 * e = T) := ⟨_, rfl⟩
        rw [hT.out] at hor hrw
        have hsh : IntKind.u32.wrap ((T : Int) / 2 ^ s) = (r : Int) := by
          rw [IntKind.wrap_u32, show ((T : Int) / 2 ^ s) = ((T / 2 ^ s : Nat) : Int) by rw [Int.natCast_ediv, Int.natCast_pow]; rfl]
          omega
        clear hdl hel hrw
        go_wp2
        refine ⟨⟨k + 1, by omega, by go_num, (HF.out.1.set k _).congr (fun j _ => HROW.out j), Below.setCell HF.out.2 (Nat.le_refl _) _⟩, ?_⟩
        simp [intOf]; omega
      · have he : L.getD (P + 1) 0 = 0 := by
          have hn' : ¬ P + 1 < L.length := by rw [hnl.out]; exact hc
          simp [List.getD, hn']
        rw [he, Nat.mul_zero, Nat.add_zero] at hrw
        have hcI : (n : Int) ≤ (P : Int) + 1 := by omega
        have hsh : IntKind.u32.wrap ((d : Int) / 2 ^ s) = (r : Int) := by
          rw [IntKind.wrap_u32, show ((d : Int) / 2 ^ s) = ((d / 2 ^ s : Nat) : Int) by rw [Int.natCast_ediv, Int.natCast_pow]; rfl]
          omega
        clear hdl hel hrw he
        go_wp2
        refine ⟨⟨k + 1, by omega, by go_num, (HF.out.1.set k _).congr (fun j _ => HROW.out j), Below.setCell HF.out.2 (Nat.le_refl _) _⟩, ?_⟩
        simp [intOf]; omega
    · have hkn' : k = M := by omega
      subst hkn'
      have HL := hid (show ((List.range k).map (rWord L q s)).length = k by rw [List.length_map, List.length_range])
      have HR2 : Hid (wr.rowIs w.heap.size 92 k (fun j => .int .u32 (rWord L q s j))) := HR.out.congr (fun j hj => by rw [if_pos hj])
      have HCUT := hid (bcut_any ((List.range k).map (rWord L q s)) (some ⟨w.heap.size, 0, none⟩) k wr (row_mag wr _ k _ _ HR2.out) (by rw [HL.out]; exact Nat.le_refl _) (by rw [HL.out]; have := HMN.out; omega))
      rw [HL.out] at HCUT
      clear HR
      go_wp2_with fail
      refine HCUT.out.mono ?_
      rintro r w1 ⟨⟨j, hj, rfl, hv, he⟩, rfl⟩
      have hDo : DigL ((List.range k).map (rWord L q s)) := by
        intro d hd
        obtain ⟨i, _, rfl⟩ := List.mem_map.1 hd
        exact Nat.mod_lt _ (by decide)
      obtain ⟨hcan, hlen⟩ := can_take _ j (by rw [HL.out]; exact hj) he
      have HF : Hid (MagOk (natL L / 2 ^ (32 * q + s)) n (.returned (.slice (some ⟨w.heap.size, 0, none⟩) j k)) w1) := by
        refine ⟨((List.range k).map (rWord L q s)).take j, _, k, by rw [hlen], by rw [hlen]; exact hj, by rw [hlen]; have := HMN.out; omega, (row_mag w1 _ k _ _ HR2.out).take j, hDo.take j, hcan, ?_⟩
        rw [hv, natF_list]
        exact right_val L hD q s k (by rw [hnl.out]; have := HMN.out; omega)
      clear hv he hcan hlen hDo hj
      go_wp2
      go_ret
      exact ⟨HF.out, HBW.out⟩
theorem right_any (L : List Nat) (a : Option Addr) (cap q s : Nat) (w : World) (hm : MagAt w a L) (hs : s < 32) (hq : q ≤ 1000000) (hn : L.length ≤ 1000000) (hD : DigL L) :
    Calls Tryz.prog 120 #[.slice a L.length cap, .int .u64 ((32 * q + s : Nat) : Int)] w fun r w' => MagOk (natL L / 2 ^ (32 * q + s)) L.length r w' ∧ Below w.heap.size w w' := by
  by_cases h0 : q < L.length
  · obtain ⟨b, off, rfl, hb, _⟩ := hm 0 (by omega)
    refine right_loop L b off cap q s w hb (fun i hi => ?_) h0 hs hq hn hD
    obtain ⟨b', off', e, _, hc⟩ := hm i hi
    cases e
    exact hc
  · refine (right_nil a L.length cap q s w hs hq (by omega)).mono ?_
    rintro r w' ⟨rfl, rfl⟩
    refine ⟨?_, Below.refl _ _⟩
    have e : natL L / 2 ^ (32 * q + s) = 0 := by
      rw [Nat.pow_add, ← pow32, ← Nat.div_div_eq_div_mul, natL_div L hD, List.drop_eq_nil_of_le (by omega)]
      exact Nat.zero_div _
    rw [e]
    exact MagOk.nil _ _ _ _
end Go.Proofs.YtehnkgonhgjeiaaGreatDoor

namespace Go.Proofs.YtehnkgonhgjeiaaGreatDoor
open Go Go.RowKit Go.IntWalk

def setW (o : Nat → Nat) (p v : Nat) : Nat → Nat := fun j => if j = p then v else o j
/-- One step of the inner loop: a word of the product is laid, the rest is carried. -/
theorem times_step (o : Nat → Nat) (n p x y c : Nat) (hp : p < n) : natF (setW o p ((x * y + o p + c) % 4294967296)) n + 4294967296 ^ (p + 1) * ((x * y + o p + c) / 4294967296) = natF o n + 4294967296 ^ p * (x * y + c) := by
  have h1 := natF_set o n p ((x * y + o p + c) % 4294967296) hp
  obtain ⟨t, ht⟩ : ∃ t, x * y + o p + c = t := ⟨_, rfl⟩
  rw [ht] at h1 ⊢
  have e0 : natF (setW o p (t % 4294967296)) n = natF (fun j => if j = p then t % 4294967296 else o j) n := rfl
  rw [e0, Nat.pow_succ]
  have hd : t = 4294967296 * (t / 4294967296) + t % 4294967296 := (Nat.div_add_mod t 4294967296).symm
  have h3 : 4294967296 ^ p * t = 4294967296 ^ p * 4294967296 * (t / 4294967296) + 4294967296 ^ p * (t % 4294967296) := by
    conv => lhs; rw [hd]
    rw [Nat.mul_add, Nat.mul_assoc]
  have h4 : 4294967296 ^ p * t = 4294967296 ^ p * (x * y + c) + 4294967296 ^ p * o p := by
    rw [← ht, ← Nat.mul_add]
    congr 1
    omega
  omega
/-- The words stay words, and the carry too. -/
theorem times_lt (x y u c : Nat) (hx : x < 4294967296) (hy : y < 4294967296) (hu : u < 4294967296) (hc : c < 4294967296) : x * y + u + c < 18446744073709551616 ∧ (x * y + u + c) / 4294967296 < 4294967296 := by
  have h : x * y ≤ 4294967295 * 4294967295 := Nat.mul_le_mul (by omega) (by omega)
  omega
/-- Ahead of the k-th round of the inner loop, in the i-th of the outer one. -/
def XInv (b : List Nat) (x i n V : Nat) (o : Nat → Nat) (k c : Nat) : Prop := natF o n + 4294967296 ^ (i + k) * c = V + 4294967296 ^ i * (x * natL (b.take k)) ∧ c < 4294967296 ∧ (∀ j, o j < 4294967296) ∧ (∀ j, i + b.length ≤ j → o j = 0)
theorem XInv.zero (b : List Nat) (x i n : Nat) (o : Nat → Nat) (hlt : ∀ j, o j < 4294967296) (hz : ∀ j, i + b.length ≤ j → o j = 0) : XInv b x i n (natF o n) o 0 0 :=
  ⟨by show natF o n + _ * 0 = natF o n + _ * (x * 0); simp, by decide, hlt, hz⟩
theorem XInv.step {b : List Nat} {x i n V : Nat} {o : Nat → Nat} {k c : Nat} (h : XInv b x i n V o k c) (hk : k < b.length) (hn : i + b.length ≤ n) (hx : x < 4294967296) (hb : DigL b) : XInv b x i n V (setW o (i + k) ((x * b.getD k 0 + o (i + k) + c) % 4294967296)) (k + 1) ((x * b.getD k 0 + o (i + k) + c) / 4294967296) := by
  obtain ⟨h1, h2, h3, h4⟩ := h
  refine ⟨?_, (times_lt x _ _ c hx (hb.get k) (h3 _) h2).2, fun j => ?_, fun j hj => ?_⟩
  · have hs := times_step o n (i + k) x (b.getD k 0) c (by omega)
    have e : i + (k + 1) = i + k + 1 := by omega
    rw [e, hs, natL_take_succ b k hk]
    rw [Nat.mul_add (4294967296 ^ (i + k))]
    have e3 : 4294967296 ^ i * (x * (natL (b.take k) + 4294967296 ^ k * b.getD k 0)) = 4294967296 ^ i * (x * natL (b.take k)) + 4294967296 ^ (i + k) * (x * b.getD k 0) := by
      rw [Nat.mul_add x, Nat.mul_add (4294967296 ^ i), Nat.pow_add, ← Nat.mul_assoc x, Nat.mul_comm x (4294967296 ^ k), Nat.mul_assoc (4294967296 ^ k), ← Nat.mul_assoc (4294967296 ^ i) (4294967296 ^ k)]
    rw [e3]
    omega
  · unfold setW
    split
    · exact Nat.mod_lt _ (by decide)
    · exact h3 j
  · unfold setW
    rw [if_neg (by omega)]
    exact h4 j hj
/-- Behind the inner loop the carry is laid too: a row more. -/
theorem XInv.row {b : List Nat} {x i n V : Nat} {o : Nat → Nat} {c : Nat} (h : XInv b x i n V o b.length c) (hn : i + b.length < n) : natF (setW o (i + b.length) c) n = V + 4294967296 ^ i * (x * natL b) ∧ (∀ j, setW o (i + b.length) c j < 4294967296) ∧ (∀ j, i + 1 + b.length ≤ j → setW o (i + b.length) c j = 0) := by
  obtain ⟨h1, h2, h3, h4⟩ := h
  rw [List.take_length] at h1
  have hs := natF_set o n (i + b.length) c hn
  rw [h4 _ (Nat.le_refl _), Nat.mul_zero, Nat.add_zero] at hs
  refine ⟨?_, fun j => ?_, fun j hj => ?_⟩
  · have e0 : natF (setW o (i + b.length) c) n = natF (fun j => if j = i + b.length then c else o j) n := rfl
    rw [e0, hs]
    exact h1
  · unfold setW
    split
    · exact h2
    · exact h3 j
  · unfold setW
    rw [if_neg (by omega)]
    exact h4 j (by omega)
end Go.Proofs.YtehnkgonhgjeiaaGreatDoor
