
/- What the document's left does. -/
import Derived.Test.YtfdphegiafccpaaP5
import Derived.Deep.OwnRows
namespace Go.Proofs.Ytfdphegiafccpaa
open Go.RowKit Go.IntWalk

/-- The number of which the first n words are told by a function. -/
def natF (o : Nat → Nat) : Nat → Nat
  | 0 => 0
  | n + 1 => natF o n + 4294967296 ^ n * o n
theorem natF_congr (o p : Nat → Nat) (n : Nat) (h : ∀ j, j < n → o j = p j) : natF o n = natF p n := by
  induction n with
  | zero => rfl
  | succ n ih =>
    show natF o n + _ * o n = natF p n + _ * p n
    rw [ih (fun j hj => h j (by omega)), h n (by omega)]
theorem natF_zero (n : Nat) : natF (fun _ => 0) n = 0 := by
  induction n with
  | zero => rfl
  | succ n ih => show natF _ n + _ * 0 = 0; rw [ih]; rfl
/-- One word more or other. -/
theorem natF_set (o : Nat → Nat) (n i v : Nat) (hi : i < n) : natF (fun j => if j = i then v else o j) n + 4294967296 ^ i * o i = natF o n + 4294967296 ^ i * v := by
  induction n with
  | zero => omega
  | succ n ih =>
    show natF _ n + 4294967296 ^ n * (if n = i then v else o n) + _ = natF o n + 4294967296 ^ n * o n + _
    by_cases h : n = i
    · subst h
      rw [if_pos rfl, natF_congr _ o n (fun j hj => if_neg (by omega))]
      omega
    · rw [if_neg h]
      have := ih (by omega)
      omega
theorem natF_list (o : Nat → Nat) (n : Nat) : natL ((List.range n).map o) = natF o n := by
  induction n with
  | zero => rfl
  | succ n ih =>
    rw [List.range_succ, List.map_append, natL_append, ih, List.length_map, List.length_range]
    show _ + _ * (o n + 4294967296 * 0) = _ + _ * o n
    rw [Nat.mul_zero, Nat.add_zero]
theorem list_get (o : Nat → Nat) (n i : Nat) (hi : i < n) : ((List.range n).map o).getD i 0 = o i := by
  simp [List.getD, hi]
theorem or_low (x0 lo s : Nat) (hs : s < 32) (h0 : x0 < 2 ^ s) (h1 : lo < 4294967296) (h2 : lo % 2 ^ s = 0) : bits .or .u32 (x0 : Int) (lo : Int) = ((x0 + lo : Nat) : Int) := by
  have hx : x0 < 4294967296 := Nat.lt_of_lt_of_le h0 (by have : (2 : Nat) ^ s ≤ 2 ^ 32 := Nat.pow_le_pow_right (by decide) (by omega); simpa using this)
  rw [u32_or_nat x0 lo hx h1]
  congr 1
  obtain ⟨c, hc⟩ : ∃ c, lo = 2 ^ s * c := ⟨lo / 2 ^ s, by have := Nat.div_add_mod lo (2 ^ s); omega⟩
  rw [hc, Nat.or_comm, Nat.add_comm]
  exact (Nat.two_pow_add_eq_or_of_lt h0 c).symm
theorem infoU : (Try.prog.info? 33).map (fun i => (i.zero, i.size, i.bytes)) = some (some (.int .u32 0), 1, 4) := by kernel_rfl
/-- What one round of left does to the words. -/
def leftW (o : Nat → Nat) (p t : Nat) : Nat → Nat := fun j => if j = p + 1 then t / 4294967296 else if j = p then o p + t % 4294967296 else o j
theorem leftW_val (o : Nat → Nat) (p t M : Nat) (hp : p + 1 < M) (hz : o (p + 1) = 0) : natF (leftW o p t) M = natF o M + 4294967296 ^ p * t := by
  have h1 := natF_set o M p (o p + t % 4294967296) (by omega)
  have h2 := natF_set (fun j => if j = p then o p + t % 4294967296 else o j) M (p + 1) (t / 4294967296) hp
  rw [if_neg (by omega), hz, Nat.mul_zero, Nat.add_zero] at h2
  have e : natF (leftW o p t) M = natF (fun j => if j = p + 1 then t / 4294967296 else if j = p then o p + t % 4294967296 else o j) M := rfl
  rw [e, h2, Nat.pow_succ]
  have ht : t = 4294967296 * (t / 4294967296) + t % 4294967296 := (Nat.div_add_mod t 4294967296).symm
  have h3 : 4294967296 ^ p * t = 4294967296 ^ p * 4294967296 * (t / 4294967296) + 4294967296 ^ p * (t % 4294967296) := by
    conv => lhs; rw [ht]
    rw [Nat.mul_add, Nat.mul_assoc]
  rw [Nat.mul_add] at h1
  omega
theorem low_sum (x l P Q W : Nat) (hW : P * Q = W) (hx : x < P) (hl : l < W) (hm : l % P = 0) : x + l < W := by
  have hd := Nat.div_add_mod l P
  rw [hm, Nat.add_zero] at hd
  have hlt : l / P < Q := by
    rw [← hW, ← hd] at hl
    exact Nat.lt_of_mul_lt_mul_left hl
  have : P * (l / P + 1) ≤ P * Q := Nat.mul_le_mul_left _ hlt
  rw [Nat.mul_add, Nat.mul_one] at this
  omega
theorem shl_wb (m k : Nat) (h : m * 2 ^ k < 18446744073709551616) : IntKind.u64.wrap ((m : Int) * 2 ^ k) = ((m * 2 ^ k : Nat) : Int) := by
  have e : (m : Int) * 2 ^ k = ((m * 2 ^ k : Nat) : Int) := by rw [Int.natCast_mul, Int.natCast_pow]; rfl
  rw [IntKind.wrap_u64, e]
  omega
/-- What holds ahead of the k-th round. -/
def LInv (L : List Nat) (q s M : Nat) (o : Nat → Nat) (k : Nat) : Prop := natF o M = natL (L.take k) * 2 ^ (32 * q + s) ∧ (∀ j, q + k < j → o j = 0) ∧ o (q + k) < 2 ^ s ∧ ∀ j, o j < 4294967296
theorem LInv.zero (L : List Nat) (q s M : Nat) : LInv L q s M (fun _ => 0) 0 := ⟨by rw [natF_zero]; show 0 = 0 * _; rw [Nat.zero_mul], fun _ _ => rfl, Nat.two_pow_pos s, fun _ => (show 0 < 4294967296 by decide)⟩
theorem pow32 (a : Nat) : 4294967296 ^ a = 2 ^ (32 * a) := by rw [show (4294967296 : Nat) = 2 ^ 32 by decide, ← Nat.pow_mul]
theorem shl_lt (d s : Nat) (hd : d < 4294967296) (hs : s < 32) : d * 2 ^ s < 18446744073709551616 ∧ d * 2 ^ s / 4294967296 < 2 ^ s ∧ d * 2 ^ s % 4294967296 % 2 ^ s = 0 ∧ 2 ^ s ≤ 4294967296 := by
  have hp := Nat.two_pow_pos s
  have h1 : (2 : Nat) ^ s ≤ 2 ^ 32 := Nat.pow_le_pow_right (by decide) (by omega)
  have h32 : (2 : Nat) ^ 32 = 4294967296 := by decide
  rw [h32] at h1
  have h2 : d * 2 ^ s < 4294967296 * 2 ^ s := Nat.mul_lt_mul_of_pos_right hd hp
  have h3 : 4294967296 * 2 ^ s ≤ 4294967296 * 4294967296 := Nat.mul_le_mul_left _ h1
  refine ⟨by omega, ?_, ?_, h1⟩
  · rw [Nat.div_lt_iff_lt_mul (by decide), Nat.mul_comm (2 ^ s)]; exact h2
  · have e : (4294967296 : Nat) = 2 ^ s * 2 ^ (32 - s) := by rw [← Nat.pow_add, Nat.add_sub_cancel' (by omega)]
    rw [e, Nat.mod_mul_right_mod, Nat.mul_mod_left]
theorem LInv.step {L : List Nat} {q s M : Nat} {o : Nat → Nat} {k : Nat} (h : LInv L q s M o k) (hk : k < L.length) (hM : q + L.length + 1 = M) (hs : s < 32) (hD : DigL L) : LInv L q s M (leftW o (q + k) (L.getD k 0 * 2 ^ s)) (k + 1) := by
  obtain ⟨h1, h2, h3, h4⟩ := h
  obtain ⟨t1, t2, t3, t4⟩ := shl_lt (L.getD k 0) s (hD.get k) hs
  obtain ⟨t, ht⟩ : ∃ t, L.getD k 0 * 2 ^ s = t := ⟨_, rfl⟩
  rw [ht] at t1 t2 t3 ⊢
  refine ⟨?_, fun j hj => ?_, ?_, fun j => ?_⟩
  · rw [leftW_val o (q + k) t M (by omega) (h2 _ (by omega)), h1, natL_take_succ L k hk, ← ht, pow32, pow32, Nat.add_mul]
    congr 1
    rw [Nat.mul_comm (L.getD k 0), ← Nat.mul_assoc, ← Nat.pow_add, Nat.mul_comm (2 ^ (32 * k)), Nat.mul_assoc, ← Nat.pow_add, Nat.mul_comm]
    congr 2
    omega
  · unfold leftW
    rw [if_neg (by omega), if_neg (by omega)]
    exact h2 j (by omega)
  · unfold leftW
    rw [if_pos (by omega)]
    exact t2
  · unfold leftW
    split
    · omega
    · split
      · exact low_sum _ _ (2 ^ s) (2 ^ (32 - s)) 4294967296 (by rw [← Nat.pow_add, Nat.add_sub_cancel' (by omega)]) h3 (Nat.mod_lt _ (by decide)) t3
      · exact h4 j
/-- What left answers: new words. -/
def LeftOk (L : List Nat) (q s B : Nat) (L' : List Nat) (w' : World) : Prop := L'.length ≤ q + L.length + 1 ∧ MagAt w' (some ⟨B, 0, none⟩) L' ∧ DigL L' ∧ CanL L' ∧ natL L' = natL L * 2 ^ (32 * q + s)
theorem left_row (o : Nat → Nat) (P T x0 lo hi y j : Nat) (h1 : o P = x0) (h2 : T % 4294967296 = lo) (h3 : T / 4294967296 = hi) (h4 : x0 + lo = y) : (if j = P + 1 then Value.int .u32 (hi : Int) else if j = P then Value.int .u32 (y : Int) else Value.int .u32 (o j : Int)) = Value.int .u32 (leftW o P T j : Int) := by
  unfold leftW
  by_cases c : j = P + 1
  · rw [if_pos c, if_pos c, h3]
  · rw [if_neg c, if_neg c]
    by_cases c2 : j = P
    · rw [if_pos c2, if_pos c2, h1, h2, h4]
    · rw [if_neg c2, if_neg c2]
theorem row_mag (w : World) (B M : Nat) (T : TypeId) (o : Nat → Nat) (h : w.rowIs B T M (fun j => .int .u32 (o j))) : MagAt w (some ⟨B, 0, none⟩) ((List.range M).map o) := by
  intro i hi
  rw [List.length_map, List.length_range] at hi
  refine ⟨B, 0, rfl, h.lt, ?_⟩
  rw [list_get o M i hi, Nat.zero_add]
  exact h.cell hi
set_option maxRecDepth 4000 in
set_option maxHeartbeats 1000000 in
theorem left_loop (L : List Nat) (b off cap q s : Nat) (w : World) (hb : b < w.heap.size) (hcell : ∀ i, i < L.length → w.cell? ⟨b, off + i, none⟩ = some (.int .u32 (L.getD i 0))) (h0 : L.length ≠ 0) (hs : s < 32) (hq : q ≤ 1000000) (hn : L.length ≤ 1000000) (hD : DigL L) :
    Calls Try.prog 53 #[.slice (some ⟨b, off, none⟩) L.length cap, .int .u64 ((32 * q + s : Nat) : Int)] w fun r w' => (∃ L' : List Nat, r = .returned (.slice (some ⟨w.heap.size, 0, none⟩) L'.length (q + L.length + 1)) ∧ LeftOk L q s w.heap.size L' w') ∧ Below w.heap.size w w' := by
  have HC := hid hcell
  have HB := hid hb
  have HS := hid hs
  obtain ⟨n, hnl⟩ : ∃ n, Hid (L.length = n) := ⟨_, rfl⟩
  rw [hnl.out] at hn h0 ⊢
  obtain ⟨N, hN⟩ : ∃ N : Int, Hid (((32 * q + s : Nat) : Int) = N) := ⟨_, rfl⟩
  rw [hN.out]
  have hdiv : N / 32 = (q : Int) := by have := hN.out; omega
  have hmod : N % 32 = (s : Int) := by have := hN.out; omega
  have hn0 : ((n : Int) == 0) = false := by simpa using h0
  obtain ⟨M, hM⟩ : ∃ M, Hid (q + n + 1 = M) := ⟨_, rfl⟩
  have hM1 : IntKind.i64.wrap (IntKind.i64.wrap ((q : Int) + (n : Int)) + 1) = (M : Int) := by have := hM.out; rw [IntWalk.i64_in ((q : Int) + (n : Int)) (by omega), IntWalk.i64_in _ (by omega)]; omega
  have hM2 : (q : Int) + (n : Int) + 1 = (M : Int) := by have := hM.out; omega
  have hmk := run_make_row' (P := Try.prog) 51 33 (.int .u32 0) 4 Try.underlying51 infoU rfl .i64 .i64 M (by have := hM.out; omega) (by have := hM.out; omega)
  rw [hM.out]
  clear hcell h0 hb hs
  go_enter Try.func53, Try.ntmps53
  go_wp2
  go_loopw [8] (fun i wr => ∃ (k : Nat) (o : Nat → Nat), k ≤ n ∧ i = .int .i64 k ∧ Hid (wr.rowIs w.heap.size 33 M (fun j => .int .u32 (o j))) ∧ Hid (LInv L q s M o k) ∧ Hid (Below w.heap.size w wr)) (fun i _ => n - (intOf i).toNat)
  case atStart => exact ⟨0, fun _ => 0, Nat.zero_le _, rfl, World.rowIs_made w (.int .u32 0) M _, LInv.zero L q s M, (Below.refl _ _).alloc (Nat.le_refl _) _⟩
  case round =>
    obtain ⟨k, o, hkn, rfl, HR, HI, HBW⟩ := hrel
    by_cases hlt : k < n
    · have hck : wr.cell? ⟨b, off + k, none⟩ = some (.int .u32 (L.getD k 0)) := by
        rw [HBW.out.cell (p := ⟨b, off + k, none⟩) HB.out]
        exact HC.out k (by rw [hnl.out]; exact hlt)
      have hdl := hD.get k
      have HST := hid (HI.out.step (by rw [hnl.out]; exact hlt) (by rw [hnl.out]; exact hM.out) HS.out hD)
      obtain ⟨t1, t2, t3, t4⟩ := shl_lt (L.getD k 0) s hdl HS.out
      obtain ⟨i1, i2, i3, i4⟩ := HI.out
      obtain ⟨d, hd⟩ : ∃ d, Hid (L.getD k 0 = d) := ⟨_, rfl⟩
      rw [hd.out] at hck hdl HST t1 t2 t3
      have hsh := shl_wb d s t1
      obtain ⟨T, hT⟩ : ∃ T, Hid (d * 2 ^ s = T) := ⟨_, rfl⟩
      rw [hT.out] at hsh t1 t2 t3 HST
      have hwd : IntKind.u64.wrap (d : Int) = (d : Int) := by rw [IntKind.wrap_u64]; omega
      have hmin : min s 64 = s := Nat.min_eq_left (by have := HS.out; omega)
      obtain ⟨P, hP⟩ : ∃ P, Hid (q + k = P) := ⟨_, rfl⟩
      have hP1 : IntKind.i64.wrap ((q : Int) + (k : Int)) = (P : Int) := by have := hP.out; rw [IntWalk.i64_in _ (by omega)]; omega
      have hP2 : (q : Int) + (k : Int) = (P : Int) := by have := hP.out; omega
      have hPM : P + 1 < M := by have := hP.out; have := hM.out; omega
      have hPI : (P : Int) < (M : Int) := by omega
      have hPI2 : (P : Int) + 1 < (M : Int) := by omega
      rw [hP.out] at i3 HST
      have cx := HR.out.cell (i := P) (by omega)
      have cy := HR.out.cell (i := P + 1) (by omega)
      have fx := HR.out.frozen
      have hlt2 := HR.out.lt
      obtain ⟨x0, hx0⟩ : ∃ x0, Hid (o P = x0) := ⟨_, rfl⟩
      rw [hx0.out] at cx i3
      obtain ⟨lo, hlo⟩ : ∃ lo, Hid (T % 4294967296 = lo) := ⟨_, rfl⟩
      obtain ⟨hi, hhi⟩ : ∃ hi, Hid (T / 4294967296 = hi) := ⟨_, rfl⟩
      have hl1 : IntKind.u32.wrap (T : Int) = (lo : Int) := by have := hlo.out; rw [IntKind.wrap_u32]; omega
      have hh1 : IntKind.u32.wrap ((T : Int) / 4294967296) = (hi : Int) := by have := hhi.out; have := t1; rw [IntKind.wrap_u32]; omega
      have hor := or_low x0 lo s HS.out i3 (by have := hlo.out; omega) (by rw [← hlo.out]; exact t3)
      obtain ⟨y, hy⟩ : ∃ y, Hid (x0 + lo = y) := ⟨_, rfl⟩
      rw [hy.out] at hor
      have HT1 := hid t1
      clear i1 i2 i3 i4 t1 t2 t3 t4 hdl
      go_wp2
      go_roundw
      case rel =>
        refine ⟨k + 1, leftW o P T, by omega, by go_num, ?_, HST, ?_⟩
        · exact ((HR.out.set P _).set (P + 1) _).congr (fun j _ => left_row o P T x0 lo hi y j hx0.out hlo.out hhi.out hy.out)
        · exact Below.setCell (Below.setCell HBW.out (Nat.le_refl _) _) (Nat.le_refl _) _
      case measure => simp [intOf]; omega
    · have hkn' : k = n := by omega
      subst hkn'
      have HL := hid (show ((List.range M).map o).length = M by rw [List.length_map, List.length_range])
      have HCUT := hid (bcut_any ((List.range M).map o) (some ⟨w.heap.size, 0, none⟩) M wr (row_mag wr _ M _ o HR.out) (by rw [HL.out]; exact Nat.le_refl _) (by rw [HL.out]; have := hM.out; omega))
      rw [HL.out] at HCUT
      go_wp2_with fail
      refine HCUT.out.mono ?_
      rintro r w1 ⟨⟨j, hj, rfl, hv, he⟩, rfl⟩
      have hDo : DigL ((List.range M).map o) := by
        intro d hd
        obtain ⟨i, _, rfl⟩ := List.mem_map.1 hd
        exact HI.out.2.2.2 i
      obtain ⟨hcan, hlen⟩ := can_take _ j (by rw [HL.out]; exact hj) he
      have HF : Hid (LeftOk L q s w.heap.size (((List.range M).map o).take j) w1) := by
        refine ⟨by rw [hlen, hnl.out]; have := hM.out; omega, (row_mag w1 _ M _ o HR.out).take j, hDo.take j, hcan, ?_⟩
        rw [hv, natF_list, HI.out.1]
        congr 2
        rw [← hnl.out, List.take_length]
      have HLE := hid hlen
      clear hv he hcan hlen hDo hj
      go_wp2
      go_ret
      exact ⟨⟨((List.range M).map o).take j, by rw [HLE.out]; rfl, HF.out⟩, HBW.out⟩
end Go.Proofs.Ytfdphegiafccpaa
