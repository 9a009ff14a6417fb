
/- What the document's right does. -/
import Derived.Test.YtfdphegiafccpaaP9
namespace Go.Proofs.Ytfdphegiafccpaa
open Go.RowKit Go.IntWalk

theorem natF_digits (Y k : Nat) : natF (fun i => Y / 4294967296 ^ i % 4294967296) k = Y % 4294967296 ^ k := by
  induction k with
  | zero => show 0 = Y % 1; omega
  | succ k ih =>
    show natF _ k + 4294967296 ^ k * (Y / 4294967296 ^ k % 4294967296) = _
    rw [ih, Nat.mod_pow_succ]
theorem natL_drop (L : List Nat) (j : Nat) : natL (L.drop j) = L.getD j 0 + 4294967296 * natL (L.drop (j + 1)) := by
  by_cases h : j < L.length
  · rw [List.drop_eq_getElem_cons h]
    show L[j] + _ = _
    simp [List.getD, h]
  · rw [List.drop_eq_nil_of_le (by omega), List.drop_eq_nil_of_le (by omega)]
    simp [List.getD, h, natL]
theorem natL_div (L : List Nat) (hD : DigL L) (j : Nat) : natL L / 4294967296 ^ j = natL (L.drop j) := by
  by_cases h : j ≤ L.length
  · have e := natL_append (L.take j) (L.drop j)
    rw [List.take_append_drop, List.length_take, Nat.min_eq_left h] at e
    have hlt := natL_lt (L.take j) (hD.take j)
    rw [List.length_take, Nat.min_eq_left h] at hlt
    rw [e, Nat.add_mul_div_left _ _ (Nat.pow_pos (by decide)), Nat.div_eq_of_lt hlt, Nat.zero_add]
  · rw [List.drop_eq_nil_of_le (by omega)]
    have h1 := natL_lt L hD
    have h2 : 4294967296 ^ L.length ≤ 4294967296 ^ j := Nat.pow_le_pow_right (by decide) (by omega)
    exact Nat.div_eq_of_lt (by omega)
/-- A word of the shifted number. -/
def rWord (L : List Nat) (q s k : Nat) : Nat := natL L / 2 ^ (32 * q + s) / 4294967296 ^ k % 4294967296
theorem rWord_is (L : List Nat) (hD : DigL L) (q s k : Nat) (hs : s < 32) : (L.getD (q + k) 0 + 4294967296 * L.getD (q + k + 1) 0) / 2 ^ s % 4294967296 = rWord L q s k := by
  unfold rWord
  rw [Nat.div_div_eq_div_mul, show 2 ^ (32 * q + s) * 4294967296 ^ k = 4294967296 ^ (q + k) * 2 ^ s by rw [pow32, pow32, ← Nat.pow_add, ← Nat.pow_add]; congr 1; omega, ← Nat.div_div_eq_div_mul, natL_div L hD, natL_drop, natL_drop]
  obtain ⟨d, hd⟩ : ∃ d, L.getD (q + k) 0 = d := ⟨_, rfl⟩
  obtain ⟨e, he⟩ : ∃ e, L.getD (q + k + 1) 0 = e := ⟨_, rfl⟩
  obtain ⟨r, hr⟩ : ∃ r, natL (List.drop (q + k + 1 + 1) L) = r := ⟨_, rfl⟩
  rw [hd, he, hr]
  have hB : (4294967296 : Nat) = 2 ^ s * 2 ^ (32 - s) := by rw [← Nat.pow_add, Nat.add_sub_cancel' (by omega)]
  have e1 : d + 4294967296 * (e + 4294967296 * r) = (d + 4294967296 * e) + 2 ^ s * (4294967296 * (2 ^ (32 - s) * r)) := by
    rw [Nat.mul_add, Nat.add_assoc]
    congr 2
    conv => lhs; rw [← Nat.mul_assoc, Nat.mul_comm 4294967296 4294967296, Nat.mul_assoc]
    rw [Nat.mul_left_comm (2 ^ s)]
    congr 1
    rw [← Nat.mul_assoc, ← hB]
  rw [e1, Nat.add_mul_div_left _ _ (Nat.two_pow_pos s), Nat.add_mul_mod_self_left]
theorem right_val (L : List Nat) (hD : DigL L) (q s M : Nat) (hM : L.length ≤ q + M) : natF (rWord L q s) M = natL L / 2 ^ (32 * q + s) := by
  show natF (fun i => natL L / 2 ^ (32 * q + s) / 4294967296 ^ i % 4294967296) M = _
  rw [natF_digits]
  apply Nat.mod_eq_of_lt
  have h1 := natL_lt L hD
  have h2 : 4294967296 ^ L.length ≤ 4294967296 ^ (q + M) := Nat.pow_le_pow_right (by decide) hM
  rw [Nat.div_lt_iff_lt_mul (Nat.two_pow_pos _)]
  have h3 : 4294967296 ^ (q + M) ≤ 4294967296 ^ M * 2 ^ (32 * q + s) := by
    rw [pow32, pow32, ← Nat.pow_add]
    exact Nat.pow_le_pow_right (by decide) (by omega)
  omega
set_option maxHeartbeats 400000 in
theorem right_nil (a : Option Addr) (n cap q s : Nat) (w : World) (hs : s < 32) (hq : q ≤ 1000000) (hn : n ≤ q) :
    Calls Try.prog 56 #[.slice a n cap, .int .u64 ((32 * q + s : Nat) : Int)] w fun r w' => r = .returned (.slice none 0 0) ∧ w' = w := by
  obtain ⟨N, hN⟩ : ∃ N : Int, Hid (((32 * q + s : Nat) : Int) = N) := ⟨_, rfl⟩
  rw [hN.out]
  have hdiv : N / 32 = (q : Int) := by have := hN.out; omega
  have hle : (n : Int) ≤ (q : Int) := by omega
  have hqi : (q : Int) ≤ 1000000 := by omega
  clear hs hq
  go_enter Try.func56, Try.ntmps56
  go_wp2
  go_ret
  exact ⟨rfl, rfl⟩
theorem right_row (L : List Nat) (q s k r j : Nat) (hr : rWord L q s k = r) : (if j = k then Value.int .u32 (r : Int) else Value.int .u32 ((if j < k then rWord L q s j else 0 : Nat) : Int)) = Value.int .u32 ((if j < k + 1 then rWord L q s j else 0 : Nat) : Int) := by
  by_cases c : j = k
  · subst c
    rw [if_pos rfl, if_pos (by omega), hr]
  · rw [if_neg c]
    by_cases c2 : j < k
    · rw [if_pos c2, if_pos (by omega)]
    · rw [if_neg c2, if_neg (by omega)]
set_option maxRecDepth 4000 in
set_option maxHeartbeats 1000000 in
theorem right_loop (L : List Nat) (b off cap q s : Nat) (w : World) (hb : b < w.heap.size) (hcell : ∀ i, i < L.length → w.cell? ⟨b, off + i, none⟩ = some (.int .u32 (L.getD i 0))) (h0 : q < L.length) (hs : s < 32) (hq : q ≤ 1000000) (hn : L.length ≤ 1000000) (hD : DigL L) :
    Calls Try.prog 56 #[.slice (some ⟨b, off, none⟩) L.length cap, .int .u64 ((32 * q + s : Nat) : Int)] w fun r w' => MagOk (natL L / 2 ^ (32 * q + s)) L.length r w' ∧ Below w.heap.size w w' := by
  have HC := hid hcell
  have HB := hid hb
  have HS := hid hs
  obtain ⟨n, hnl⟩ : ∃ n, Hid (L.length = n) := ⟨_, rfl⟩
  rw [hnl.out] at hn h0 ⊢
  obtain ⟨N, hN⟩ : ∃ N : Int, Hid (((32 * q + s : Nat) : Int) = N) := ⟨_, rfl⟩
  rw [hN.out]
  have hdiv : N / 32 = (q : Int) := by have := hN.out; omega
  have hmod : N % 32 = (s : Int) := by have := hN.out; omega
  have hqn : ¬ (n : Int) ≤ (q : Int) := by omega
  obtain ⟨M, hM⟩ : ∃ M, Hid (n - q = M) := ⟨_, rfl⟩
  have hM1 : IntKind.i64.wrap ((n : Int) - (q : Int)) = (M : Int) := by have := hM.out; rw [IntWalk.i64_in _ (by omega)]; omega
  have hM2 : (n : Int) - (q : Int) = (M : Int) := by have := hM.out; omega
  have hMn : q + M = n := by have := hM.out; omega
  have hmk := run_make_row' (P := Try.prog) 51 33 (.int .u32 0) 4 Try.underlying51 infoU rfl .i64 .i64 M (by have := hM.out; omega) (by have := hM.out; omega)
  have HMN := hid hMn
  clear hcell h0 hb hs hMn
  go_enter Try.func56, Try.ntmps56
  go_wp2
  go_loopw [8] (fun i wr => ∃ (k : Nat), k ≤ M ∧ i = .int .i64 k ∧ Hid (wr.rowIs w.heap.size 33 M (fun j => .int .u32 ((if j < k then rWord L q s j else 0 : Nat) : Int))) ∧ Hid (Below w.heap.size w wr)) (fun i _ => M - (intOf i).toNat)
  case atStart => exact ⟨0, Nat.zero_le _, rfl, (World.rowIs_made w (.int .u32 0) M _).congr (fun j _ => by rw [if_neg (Nat.not_lt_zero j)]; rfl), (Below.refl _ _).alloc (Nat.le_refl _) _⟩
  case round =>
    obtain ⟨k, hkM, rfl, HR, HBW⟩ := hrel
    by_cases hlt : k < M
    · obtain ⟨P, hP⟩ : ∃ P, Hid (q + k = P) := ⟨_, rfl⟩
      have hPn : P < n := by have := hP.out; have := HMN.out; omega
      have hPI : (P : Int) < (n : Int) := by omega
      have hP1 : IntKind.i64.wrap ((q : Int) + (k : Int)) = (P : Int) := by have := hP.out; rw [IntWalk.i64_in _ (by omega)]; omega
      have hP2 : (q : Int) + (k : Int) = (P : Int) := by have := hP.out; omega
      have hck : wr.cell? ⟨b, off + P, none⟩ = some (.int .u32 (L.getD P 0)) := by
        rw [HBW.out.cell (p := ⟨b, off + P, none⟩) HB.out]
        exact HC.out P (by rw [hnl.out]; exact hPn)
      have hdl := hD.get P
      have hel := hD.get (P + 1)
      have hrw := rWord_is L hD q s k HS.out
      rw [hP.out] at hrw
      have hmin : min s 64 = s := Nat.min_eq_left (by have := HS.out; omega)
      have hkI : (k : Int) < (M : Int) := by omega
      have fx := HR.out.frozen
      have hlt2 := HR.out.lt
      have cx := HR.out.cell (i := k) (by omega)
      rw [if_neg (Nat.lt_irrefl k)] at cx
      obtain ⟨d, hd⟩ : ∃ d, Hid (L.getD P 0 = d) := ⟨_, rfl⟩
      rw [hd.out] at hck hdl hrw
      have hwd : IntKind.u64.wrap (d : Int) = (d : Int) := by rw [IntKind.wrap_u64]; omega
      obtain ⟨r, hr⟩ : ∃ r, Hid (rWord L q s k = r) := ⟨_, rfl⟩
      have HROW : Hid (∀ j, (if j = k then Value.int .u32 (r : Int) else Value.int .u32 ((if j < k then rWord L q s j else 0 : Nat) : Int)) = Value.int .u32 ((if j < k + 1 then rWord L q s j else 0 : Nat) : Int)) := fun j => right_row L q s k r j hr.out
      rw [hr.out] at hrw
      have HF : Hid (wr.rowIs w.heap.size 33 M (fun j => .int .u32 ((if j < k then rWord L q s j else 0 : Nat) : Int)) ∧ Below w.heap.size w wr) := ⟨HR.out, HBW.out⟩
      clear HR HBW hr
      by_cases hc : P + 1 < n
      · have hck2 : wr.cell? ⟨b, off + (P + 1), none⟩ = some (.int .u32 (L.getD (P + 1) 0)) := by
          rw [HF.out.2.cell (p := ⟨b, off + (P + 1), none⟩) HB.out]
          exact HC.out (P + 1) (by rw [hnl.out]; exact hc)
        obtain ⟨e, he⟩ : ∃ e, Hid (L.getD (P + 1) 0 = e) := ⟨_, rfl⟩
        rw [he.out] at hck2 hel hrw
        have hwe : IntKind.u64.wrap (e : Int) = (e : Int) := by rw [IntKind.wrap_u64]; omega
        have hor := or_words d e hdl hel
        have hcI : (P : Int) + 1 < (n : Int) := by omega
        obtain ⟨T, hT⟩ : ∃ T, Hid (d + 4294967296 * e = T) := ⟨_, rfl⟩
        rw [hT.out] at hor hrw
        have hsh : IntKind.u32.wrap ((T : Int) / 2 ^ s) = (r : Int) := by
          rw [IntKind.wrap_u32, show ((T : Int) / 2 ^ s) = ((T / 2 ^ s : Nat) : Int) by rw [Int.natCast_ediv, Int.natCast_pow]; rfl]
          omega
        clear hdl hel hrw
        go_wp2
        refine ⟨⟨k + 1, by omega, by go_num, (HF.out.1.set k _).congr (fun j _ => HROW.out j), Below.setCell HF.out.2 (Nat.le_refl _) _⟩, ?_⟩
        simp [intOf]; omega
      · have he : L.getD (P + 1) 0 = 0 := by
          have hn' : ¬ P + 1 < L.length := by rw [hnl.out]; exact hc
          simp [List.getD, hn']
        rw [he, Nat.mul_zero, Nat.add_zero] at hrw
        have hcI : (n : Int) ≤ (P : Int) + 1 := by omega
        have hsh : IntKind.u32.wrap ((d : Int) / 2 ^ s) = (r : Int) := by
          rw [IntKind.wrap_u32, show ((d : Int) / 2 ^ s) = ((d / 2 ^ s : Nat) : Int) by rw [Int.natCast_ediv, Int.natCast_pow]; rfl]
          omega
        clear hdl hel hrw he
        go_wp2
        refine ⟨⟨k + 1, by omega, by go_num, (HF.out.1.set k _).congr (fun j _ => HROW.out j), Below.setCell HF.out.2 (Nat.le_refl _) _⟩, ?_⟩
        simp [intOf]; omega
    · have hkn' : k = M := by omega
      subst hkn'
      have HL := hid (show ((List.range k).map (rWord L q s)).length = k by rw [List.length_map, List.length_range])
      have HR2 : Hid (wr.rowIs w.heap.size 33 k (fun j => .int .u32 (rWord L q s j))) := HR.out.congr (fun j hj => by rw [if_pos hj])
      have HCUT := hid (bcut_any ((List.range k).map (rWord L q s)) (some ⟨w.heap.size, 0, none⟩) k wr (row_mag wr _ k _ _ HR2.out) (by rw [HL.out]; exact Nat.le_refl _) (by rw [HL.out]; have := HMN.out; omega))
      rw [HL.out] at HCUT
      clear HR
      go_wp2_with fail
      refine HCUT.out.mono ?_
      rintro r w1 ⟨⟨j, hj, rfl, hv, he⟩, rfl⟩
      have hDo : DigL ((List.range k).map (rWord L q s)) := by
        intro d hd
        obtain ⟨i, _, rfl⟩ := List.mem_map.1 hd
        exact Nat.mod_lt _ (by decide)
      obtain ⟨hcan, hlen⟩ := can_take _ j (by rw [HL.out]; exact hj) he
      have HF : Hid (MagOk (natL L / 2 ^ (32 * q + s)) n (.returned (.slice (some ⟨w.heap.size, 0, none⟩) j k)) w1) := by
        refine ⟨((List.range k).map (rWord L q s)).take j, _, k, by rw [hlen], by rw [hlen]; exact hj, by rw [hlen]; have := HMN.out; omega, (row_mag w1 _ k _ _ HR2.out).take j, hDo.take j, hcan, ?_⟩
        rw [hv, natF_list]
        exact right_val L hD q s k (by rw [hnl.out]; have := HMN.out; omega)
      clear hv he hcan hlen hDo hj
      go_wp2
      go_ret
      exact ⟨HF.out, HBW.out⟩
theorem right_any (L : List Nat) (a : Option Addr) (cap q s : Nat) (w : World) (hm : MagAt w a L) (hs : s < 32) (hq : q ≤ 1000000) (hn : L.length ≤ 1000000) (hD : DigL L) :
    Calls Try.prog 56 #[.slice a L.length cap, .int .u64 ((32 * q + s : Nat) : Int)] w fun r w' => MagOk (natL L / 2 ^ (32 * q + s)) L.length r w' ∧ Below w.heap.size w w' := by
  by_cases h0 : q < L.length
  · obtain ⟨b, off, rfl, hb, _⟩ := hm 0 (by omega)
    refine right_loop L b off cap q s w hb (fun i hi => ?_) h0 hs hq hn hD
    obtain ⟨b', off', e, _, hc⟩ := hm i hi
    cases e
    exact hc
  · refine (right_nil a L.length cap q s w hs hq (by omega)).mono ?_
    rintro r w' ⟨rfl, rfl⟩
    refine ⟨?_, Below.refl _ _⟩
    have e : natL L / 2 ^ (32 * q + s) = 0 := by
      rw [Nat.pow_add, ← pow32, ← Nat.div_div_eq_div_mul, natL_div L hD, List.drop_eq_nil_of_le (by omega)]
      exact Nat.zero_div _
    rw [e]
    exact MagOk.nil _ _ _ _
end Go.Proofs.Ytfdphegiafccpaa
