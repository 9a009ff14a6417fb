
/- plus, where the second one is longer; plus of any two. -/
import Derived.Test.YtfdphegiafccpaaP17
namespace Go.Proofs.Ytfdphegiafccpaa
open Go.RowKit Go.IntWalk

set_option maxRecDepth 4000 in
set_option maxHeartbeats 1000000 in
theorem plus_swap (A B : List Nat) (a b : Option Addr) (ca cb : Nat) (w : World) (hA : MagAt w a A) (hB : MagAt w b B) (dA : DigL A) (dB : DigL B) (hl : B.length < A.length) (hn : A.length ≤ 1000000) :
    Calls Try.prog 46 #[.slice b B.length cb, .slice a A.length ca] w fun r w' => MagOk (natL A + natL B) (A.length + 1) r w' ∧ Below w.heap.size w w' := by
  have HA := hid hA
  have HB := hid hB
  obtain ⟨n, hnl⟩ : ∃ n, Hid (A.length = n) := ⟨_, rfl⟩
  obtain ⟨m, hml⟩ : ∃ m, Hid (B.length = m) := ⟨_, rfl⟩
  rw [hnl.out] at hn hl ⊢
  rw [hml.out] at hl ⊢
  have hlI : (m : Int) < (n : Int) := by omega
  obtain ⟨M, hM⟩ : ∃ M, Hid (n + 1 = M) := ⟨_, rfl⟩
  have hM1 : IntKind.i64.wrap ((n : Int) + 1) = (M : Int) := by have := hM.out; rw [IntWalk.i64_in _ (by omega)]; omega
  have hM2 : (n : Int) + 1 = (M : Int) := by have := hM.out; omega
  have hmk := run_make_row' (P := Try.prog) 51 33 (.int .u32 0) 4 Try.underlying51 infoU rfl .i64 .i64 M (by have := hM.out; omega) (by have := hM.out; omega)
  rw [hM.out]
  clear hA hB
  go_enter Try.func46, Try.ntmps46
  go_wp2
  go_loopw [7, 8] (fun cv i wr => ∃ (k c : Nat) (o : Nat → Nat), k ≤ n ∧ cv = .int .u64 c ∧ i = .int .i64 k ∧ Hid (wr.rowIs w.heap.size 33 M (fun j => .int .u32 (o j))) ∧ Hid (PInv A B o c k) ∧ Hid (Below w.heap.size w wr)) (fun _ i _ => n - (intOf i).toNat)
  case atStart => exact ⟨0, 0, fun _ => 0, Nat.zero_le _, rfl, rfl, World.rowIs_made w (.int .u32 0) M _, ⟨rfl, by decide, fun _ => (show 0 < 4294967296 by decide)⟩, (Below.refl _ _).alloc (Nat.le_refl _) _⟩
  case round =>
    obtain ⟨k, c, o, hkn, rfl, rfl, HR, HI, HBW⟩ := hrel
    by_cases hlt : k < n
    · obtain ⟨ba, oa, rfl, hba, hca0⟩ := HA.out k (by rw [hnl.out]; exact hlt)
      have hca : wr.cell? ⟨ba, oa + k, none⟩ = some (.int .u32 (A.getD k 0)) := by
        rw [HBW.out.cell (p := ⟨ba, oa + k, none⟩) hba]
        exact hca0
      have hda := dA.get k
      have hdb := dB.get k
      have hc1 := HI.out.2.1
      have HST := hid (HI.out.step dA dB)
      have fx := HR.out.frozen
      have hlt2 := HR.out.lt
      have hkM : k < M := by have := hM.out; omega
      have hkMI : (k : Int) < (M : Int) := by omega
      have hknI : (k : Int) < (n : Int) := by omega
      have cx := HR.out.cell (i := k) hkM
      obtain ⟨x, hx⟩ : ∃ x, Hid (A.getD k 0 = x) := ⟨_, rfl⟩
      obtain ⟨y, hy⟩ : ∃ y, Hid (B.getD k 0 = y) := ⟨_, rfl⟩
      rw [hx.out] at hca hda HST
      rw [hy.out] at hdb HST
      have hwx : IntKind.u64.wrap (x : Int) = (x : Int) := by rw [IntKind.wrap_u64]; omega
      have hwy : IntKind.u64.wrap (y : Int) = (y : Int) := by rw [IntKind.wrap_u64]; omega
      have hs1 : IntKind.u64.wrap ((x : Int) + (c : Int)) = ((x + c : Nat) : Int) := by rw [IntKind.wrap_u64]; omega
      have hs2 : IntKind.u64.wrap (((x + c : Nat) : Int) + (y : Int)) = ((x + c + y : Nat) : Int) := by rw [IntKind.wrap_u64]; omega
      clear hca0 hba
      by_cases hkm : k < m
      · obtain ⟨bb, ob, rfl, hbb, hcb0⟩ := HB.out k (by rw [hml.out]; exact hkm)
        have hcb : wr.cell? ⟨bb, ob + k, none⟩ = some (.int .u32 (B.getD k 0)) := by
          rw [HBW.out.cell (p := ⟨bb, ob + k, none⟩) hbb]
          exact hcb0
        rw [hy.out] at hcb
        have hkmI : (k : Int) < (m : Int) := by omega
        obtain ⟨S1, hS1⟩ : ∃ S1, Hid (x + c = S1) := ⟨_, rfl⟩
        rw [hS1.out] at hs1 hs2 HST
        obtain ⟨S2, hS2⟩ : ∃ S2, Hid (S1 + y = S2) := ⟨_, rfl⟩
        rw [hS2.out] at hs2 HST
        have hS2b : S2 ≤ 8589934591 := by have := hS1.out; have := hS2.out; omega
        have hlo : IntKind.u32.wrap (S2 : Int) = ((S2 % 4294967296 : Nat) : Int) := by rw [IntKind.wrap_u32]; omega
        have hhi : (S2 : Int) / 4294967296 = ((S2 / 4294967296 : Nat) : Int) := by omega
        obtain ⟨lo, hlo'⟩ : ∃ lo, Hid (S2 % 4294967296 = lo) := ⟨_, rfl⟩
        obtain ⟨hi, hhi'⟩ : ∃ hi, Hid (S2 / 4294967296 = hi) := ⟨_, rfl⟩
        rw [hlo'.out] at hlo HST
        rw [hhi'.out] at hhi HST
        clear hcb0 hbb hda hdb hc1 hS2b
        go_wp2
        refine ⟨⟨k + 1, hi, _, by omega, rfl, by go_num, (HR.out.set k _).congr (fun j _ => row_if o k lo j), HST, Below.setCell HBW.out (Nat.le_refl _) _⟩, ?_⟩
        simp [intOf]; omega
      · have hy0 : y = 0 := by
          rw [← hy.out]
          have hn' : ¬ k < B.length := by rw [hml.out]; exact hkm
          simp [List.getD, hn']
        have hkmI : ¬ (k : Int) < (m : Int) := by omega
        rw [hy0, Nat.add_zero] at HST
        obtain ⟨S2, hS2⟩ : ∃ S2, Hid (x + c = S2) := ⟨_, rfl⟩
        rw [hS2.out] at hs1 HST
        have hS2b : S2 ≤ 8589934591 := by have := hS2.out; omega
        have hlo : IntKind.u32.wrap (S2 : Int) = ((S2 % 4294967296 : Nat) : Int) := by rw [IntKind.wrap_u32]; omega
        have hhi : (S2 : Int) / 4294967296 = ((S2 / 4294967296 : Nat) : Int) := by omega
        obtain ⟨lo, hlo'⟩ : ∃ lo, Hid (S2 % 4294967296 = lo) := ⟨_, rfl⟩
        obtain ⟨hi, hhi'⟩ : ∃ hi, Hid (S2 / 4294967296 = hi) := ⟨_, rfl⟩
        rw [hlo'.out] at hlo HST
        rw [hhi'.out] at hhi HST
        clear hda hdb hc1 hS2b hs2 hy0 hy hwy
        go_wp2
        refine ⟨⟨k + 1, hi, _, by omega, rfl, by go_num, (HR.out.set k _).congr (fun j _ => row_if o k lo j), HST, Below.setCell HBW.out (Nat.le_refl _) _⟩, ?_⟩
        simp [intOf]; omega
    · have hkn' : k = n := by omega
      subst hkn'
      have hc1 := HI.out.2.1
      have fx := HR.out.frozen
      have hlt2 := HR.out.lt
      have hkM : k < M := by have := hM.out; omega
      have hkMI : (k : Int) < (M : Int) := by omega
      have cx := HR.out.cell (i := k) hkM
      have hwc : IntKind.u32.wrap (c : Int) = (c : Int) := by rw [IntKind.wrap_u32]; omega
      obtain ⟨p, hp⟩ : ∃ p : Nat → Nat, Hid (p = fun j => if j = k then c else o j) := ⟨_, rfl⟩
      have HR2 : Hid ((wr.setCell ⟨w.heap.size, k, none⟩ (.int .u32 (c : Int))).rowIs w.heap.size 33 M (fun j => .int .u32 (p j))) := by
        rw [hp.out]
        exact (HR.out.set k _).congr (fun j _ => row_if o k c j)
      have HBW2 : Hid (Below w.heap.size w (wr.setCell ⟨w.heap.size, k, none⟩ (.int .u32 (c : Int)))) := Below.setCell HBW.out (Nat.le_refl _) _
      have HV : Hid (natF p M = natL A + natL B ∧ ∀ j, p j < 4294967296) := by
        obtain ⟨i1, i2, i3⟩ := HI.out
        rw [← hM.out, hp.out]
        refine ⟨?_, fun j => ?_⟩
        · show natF _ k + 4294967296 ^ k * (if k = k then c else o k) = _
          rw [if_pos rfl, natF_congr _ o k (fun j hj => if_neg (by omega)), i1]
          rw [List.take_of_length_le (by rw [hnl.out]; exact Nat.le_refl _), List.take_of_length_le (by rw [hml.out]; omega)]
        · show (if j = k then c else o j) < _
          split
          · omega
          · exact i3 j
      have HL := hid (show ((List.range M).map p).length = M by rw [List.length_map, List.length_range])
      have HCUT := hid (bcut_any ((List.range M).map p) (some ⟨w.heap.size, 0, none⟩) M _ (row_mag _ _ M _ p HR2.out) (by rw [HL.out]; exact Nat.le_refl _) (by rw [HL.out]; have := hM.out; omega))
      rw [HL.out] at HCUT
      clear HR HI hp hc1
      go_wp2_with fail
      refine HCUT.out.mono ?_
      rintro r w1 ⟨⟨j, hj, rfl, hv, he⟩, rfl⟩
      have hDo : DigL ((List.range M).map p) := by
        intro d hd
        obtain ⟨i, _, rfl⟩ := List.mem_map.1 hd
        exact HV.out.2 i
      obtain ⟨hcan, hlen⟩ := can_take _ j (by rw [HL.out]; exact hj) he
      have HF : Hid (MagOk (natL A + natL B) M (.returned (.slice (some ⟨w.heap.size, 0, none⟩) j M)) (wr.setCell ⟨w.heap.size, k, none⟩ (.int .u32 (c : Int)))) := by
        refine ⟨((List.range M).map p).take j, _, M, by rw [hlen], by rw [hlen]; exact hj, by rw [hlen]; exact hj, (row_mag _ _ M _ _ HR2.out).take j, hDo.take j, hcan, ?_⟩
        rw [hv, natF_list]
        exact HV.out.1
      clear hv he hcan hlen hDo hj
      go_wp2
      go_ret
      exact ⟨HF.out, HBW2.out⟩
theorem plus_any (A B : List Nat) (a b : Option Addr) (ca cb : Nat) (w : World) (hA : MagAt w a A) (hB : MagAt w b B) (dA : DigL A) (dB : DigL B) (hn : A.length ≤ 1000000) (hm : B.length ≤ 1000000) :
    Calls Try.prog 46 #[.slice a A.length ca, .slice b B.length cb] w fun r w' => MagOk (natL A + natL B) (max A.length B.length + 1) r w' ∧ Below w.heap.size w w' := by
  by_cases h : B.length ≤ A.length
  · rw [Nat.max_eq_left h]
    exact plus_loop A B a b ca cb w hA hB dA dB h hn
  · rw [Nat.max_eq_right (by omega), Nat.add_comm (natL A)]
    exact plus_swap B A b a cb ca w hB hA dB dA (by omega) hm
end Go.Proofs.Ytfdphegiafccpaa
