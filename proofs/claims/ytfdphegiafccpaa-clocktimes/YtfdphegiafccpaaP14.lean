
/- What the document's times does. -/
import Derived.Test.YtfdphegiafccpaaP11
import Derived.Test.YtfdphegiafccpaaP9
import Derived.Deep.QuietTactic
namespace Go.Proofs.Ytfdphegiafccpaa
open Go.RowKit Go.IntWalk

theorem _root_.Go.World.rowIs.drewN_set {w : World} {b n : Nat} {t : TypeId} {f : Nat → Value} (h : w.rowIs b t n f) (i v : Nat) (k : Nat) : ((w.drewN k).setCell ⟨b, i, none⟩ (.int .u32 v)).rowIs b t n (fun j => if j = i then (.int .u32 v) else f j) :=
  World.rowIs.set (w := w.drewN k) (h.of_block rfl) i _
set_option maxRecDepth 4000 in
set_option maxHeartbeats 4000000 in
theorem times_any (A B : List Nat) (a b : Option Addr) (ca cb : Nat) (w : World) (hA : MagAt w a A) (hB : MagAt w b B) (hnA : A.length ≤ 400000) (hnB : B.length ≤ 400000) (dA : DigL A) (dB : DigL B) :
    Calls Try.prog 44 #[.slice a A.length ca, .slice b B.length cb] w fun r w' => MagOk (natL A * natL B) (A.length + B.length) r w' ∧ Below w.heap.size w w' := by
  have HA := hid hA
  have HB := hid hB
  obtain ⟨n, hnl⟩ : ∃ n, Hid (A.length = n) := ⟨_, rfl⟩
  obtain ⟨m, hml⟩ : ∃ m, Hid (B.length = m) := ⟨_, rfl⟩
  rw [hnl.out] at hnA ⊢
  rw [hml.out] at hnB ⊢
  obtain ⟨M, hM⟩ : ∃ M, Hid (n + m = M) := ⟨_, rfl⟩
  have hM1 : IntKind.i64.wrap ((n : Int) + (m : Int)) = (M : Int) := by have := hM.out; rw [IntWalk.i64_in _ (by omega)]; omega
  have hM2 : (n : Int) + (m : Int) = (M : Int) := by have := hM.out; omega
  have hmk := run_make_row' (P := Try.prog) 51 33 (.int .u32 0) 4 Try.underlying51 infoU rfl .i64 .i64 M (by have := hM.out; omega) (by have := hM.out; omega)
  rw [hM.out]
  clear hA hB
  go_enter Try.func44, Try.ntmps44
  go_wp2
  go_loopw [6] (fun i wr => ∃ (k : Nat) (o : Nat → Nat), k ≤ n ∧ i = .int .i64 k ∧ Hid (wr.rowIs w.heap.size 33 M (fun j => .int .u32 (o j))) ∧ Hid (natF o M = natL (A.take k) * natL B ∧ (∀ j, o j < 4294967296) ∧ (∀ j, k + m ≤ j → o j = 0)) ∧ Hid (Below w.heap.size w wr)) (fun i _ => n - (intOf i).toNat)
  case atStart => exact ⟨0, fun _ => 0, Nat.zero_le _, rfl, World.rowIs_made w (.int .u32 0) M _, ⟨by rw [natF_zero]; show 0 = 0 * _; rw [Nat.zero_mul], fun _ => (show 0 < 4294967296 by decide), fun _ _ => rfl⟩, (Below.refl _ _).alloc (Nat.le_refl _) _⟩
  case round =>
    obtain ⟨k, o, hkn, rfl, HR, HI, HBW⟩ := hrel
    by_cases hlt : k < n
    · have hltI : (k : Int) < (n : Int) := by omega
      have HKN := hid hlt
      have hxl := dA.get k
      obtain ⟨x, hx⟩ : ∃ x, Hid (A.getD k 0 = x) := ⟨_, rfl⟩
      rw [hx.out] at hxl
      have HXL := hid hxl
      have HM0 := hid (XInv.zero B x k M o HI.out.2.1 (fun j hj => HI.out.2.2 j (by rw [← hml.out]; exact hj)))
      obtain ⟨V, hV⟩ : ∃ V, Hid (natF o M = V) := ⟨_, rfl⟩
      rw [hV.out] at HM0
      have HKI : Hid (k + m < M) := by have := hM.out; have := HKN.out; show k + m < M; omega
      clear hlt hkn hxl
      go_wp2
      go_loopw [7, 8] (fun cv kv wr2 => ∃ (l c : Nat) (o2 : Nat → Nat), l ≤ m ∧ kv = .int .i64 l ∧ cv = .int .u64 c ∧ Hid (wr2.rowIs w.heap.size 33 M (fun j => .int .u32 (o2 j))) ∧ Hid (XInv B x k M V o2 l c) ∧ Hid (Below w.heap.size w wr2)) (fun _ kv _ => m - (intOf kv).toNat)
      case atStart => exact ⟨0, 0, o, Nat.zero_le _, rfl, rfl, HR, HM0, HBW⟩
      case round =>
        obtain ⟨l, c, o2, hlm, rfl, rfl, HR2, HI2, HBW2⟩ := hrel
        by_cases hl2 : l < m
        · obtain ⟨ba, oa, rfl, hba, hca1⟩ := HA.out k (by rw [hnl.out]; exact HKN.out)
          obtain ⟨bb, ob, rfl, hbb, hcb1⟩ := HB.out l (by rw [hml.out]; exact hl2)
          have hca2 : wr.cell? ⟨ba, oa + k, none⟩ = some (.int .u32 x) := by
            rw [HBW2.out.cell (p := ⟨ba, oa + k, none⟩) hba, ← hx.out]
            exact hca1
          have hcb2 : wr.cell? ⟨bb, ob + l, none⟩ = some (.int .u32 (B.getD l 0)) := by
            rw [HBW2.out.cell (p := ⟨bb, ob + l, none⟩) hbb]
            exact hcb1
          clear hba hbb hca1 hcb1
          have HST := hid (HI2.out.step (by rw [hml.out]; exact hl2) (by rw [hml.out]; have := HKI.out; omega) HXL.out dB)
          obtain ⟨i1, i2, i3, i4⟩ := HI2.out
          have hyl := dB.get l
          obtain ⟨y, hy⟩ : ∃ y, Hid (B.getD l 0 = y) := ⟨_, rfl⟩
          rw [hy.out] at hcb2 hyl HST
          obtain ⟨P, hP⟩ : ∃ P, Hid (k + l = P) := ⟨_, rfl⟩
          have hP1 : IntKind.i64.wrap ((k : Int) + (l : Int)) = (P : Int) := by have := hP.out; rw [IntWalk.i64_in _ (by omega)]; omega
          have hP2 : (k : Int) + (l : Int) = (P : Int) := by have := hP.out; omega
          have hP3 : IntKind.i64.wrap (P : Int) = (P : Int) := by have := hP.out; rw [IntWalk.i64_in _ (by omega)]
          have hPM : P < M := by have := hP.out; have := HKI.out; omega
          have hPI : (P : Int) < (M : Int) := by omega
          have hlI : (l : Int) < (m : Int) := by omega
          rw [hP.out] at HST
          have cx := HR2.out.cell (i := P) hPM
          have fx := HR2.out.frozen
          have hlt2 := HR2.out.lt
          have hul := i3 P
          obtain ⟨u, hu⟩ : ∃ u, Hid (o2 P = u) := ⟨_, rfl⟩
          rw [hu.out] at cx hul HST
          obtain ⟨t1, t2⟩ := times_lt x y u c HXL.out hyl hul i2
          obtain ⟨X1, hX1⟩ : ∃ X1, Hid (x * y = X1) := ⟨_, rfl⟩
          rw [hX1.out] at t1 t2 HST
          obtain ⟨X2, hX2⟩ : ∃ X2, Hid (X1 + u = X2) := ⟨_, rfl⟩
          rw [hX2.out] at t1 t2 HST
          obtain ⟨T, hT⟩ : ∃ T, Hid (X2 + c = T) := ⟨_, rfl⟩
          rw [hT.out] at t1 t2 HST
          have hwx : IntKind.u64.wrap (x : Int) = (x : Int) := by have := HXL.out; rw [IntKind.wrap_u64]; omega
          have hwy : IntKind.u64.wrap (y : Int) = (y : Int) := by rw [IntKind.wrap_u64]; omega
          have hwu : IntKind.u64.wrap (u : Int) = (u : Int) := by rw [IntKind.wrap_u64]; omega
          have hm0 : (x : Int) * (y : Int) = (X1 : Int) := by rw [← hX1.out, Int.natCast_mul]
          have hm1 : IntKind.u64.wrap (X1 : Int) = (X1 : Int) := by have := hX2.out; have := hT.out; rw [IntKind.wrap_u64]; omega
          have hm2 : (X1 : Int) + (u : Int) = (X2 : Int) := by have := hX2.out; omega
          have hm3 : IntKind.u64.wrap (X2 : Int) = (X2 : Int) := by have := hT.out; rw [IntKind.wrap_u64]; omega
          have hm4 : (X2 : Int) + (c : Int) = (T : Int) := by have := hT.out; omega
          have hm5 : IntKind.u64.wrap (T : Int) = (T : Int) := by rw [IntKind.wrap_u64]; omega
          obtain ⟨lo, hlo⟩ : ∃ lo, Hid (T % 4294967296 = lo) := ⟨_, rfl⟩
          obtain ⟨hi, hhi⟩ : ∃ hi, Hid (T / 4294967296 = hi) := ⟨_, rfl⟩
          have hl1 : IntKind.u32.wrap (T : Int) = (lo : Int) := by have := hlo.out; rw [IntKind.wrap_u32]; omega
          have hh1 : (T : Int) / 4294967296 = (hi : Int) := by have := hhi.out; omega
          rw [hlo.out, hhi.out] at HST
          clear i1 i2 i3 i4 t1 t2 hul hyl
          go_wp2_with fail
          go_quiet (fail)
          go_wp2
          go_roundw
          case rel =>
            refine ⟨l + 1, hi, setW o2 P lo, by omega, by go_num, rfl, ?_, HST, ?_⟩
            · refine (HR2.out.drewN_set P lo _).congr (fun j _ => ?_)
              unfold setW
              by_cases hj : j = P
              · rw [if_pos hj, if_pos hj]
              · rw [if_neg hj, if_neg hj]
            · exact Below.setCell (bl_drewN _ HBW2.out) (Nat.le_refl _) _
          case measure => simp [intOf]; omega
        · have hlm' : l = m := by omega
          subst hlm'
          have hIr := HI2.out
          rw [← hml.out] at hIr
          obtain ⟨q1, q2, q3⟩ := hIr.row (by rw [hml.out]; exact HKI.out)
          have hcl := HI2.out.2.1
          rw [hml.out] at q1 q2 q3
          obtain ⟨Q, hQ⟩ : ∃ Q, Hid (k + l = Q) := ⟨_, rfl⟩
          rw [hQ.out] at q1 q2 q3
          have hQ2 : (k : Int) + (l : Int) = (Q : Int) := by have := hQ.out; omega
          have hQ3 : IntKind.i64.wrap (Q : Int) = (Q : Int) := by have := hQ.out; rw [IntWalk.i64_in _ (by omega)]
          have hQM : Q < M := by have := hQ.out; have := HKI.out; omega
          have hQI : (Q : Int) < (M : Int) := by omega
          have cx := HR2.out.cell (i := Q) hQM
          have fx := HR2.out.frozen
          have hlt2 := HR2.out.lt
          have hwc : IntKind.u32.wrap (c : Int) = (c : Int) := by rw [IntKind.wrap_u32]; omega
          have HNX : Hid (natF (setW o2 Q c) M = natL (A.take (k + 1)) * natL B ∧ (∀ j, setW o2 Q c j < 4294967296) ∧ (∀ j, k + 1 + l ≤ j → setW o2 Q c j = 0)) := by
            refine ⟨?_, q2, q3⟩
            rw [q1, ← hV.out, HI.out.1, natL_take_succ A k (by rw [hnl.out]; exact HKN.out), hx.out, Nat.add_mul, Nat.mul_assoc]
          clear q1 q2 q3 hIr hcl
          go_wp2
          go_roundw
          case rel =>
            refine ⟨k + 1, setW o2 Q c, HKN.out, by go_num, ?_, HNX, Below.setCell HBW2.out (Nat.le_refl _) _⟩
            refine (HR2.out.set Q _).congr (fun j _ => ?_)
            unfold setW
            by_cases hj : j = Q
            · rw [if_pos hj, if_pos hj]
            · rw [if_neg hj, if_neg hj]
          case measure => have := HKN.out; simp [intOf]; omega
    · have hkn' : k = n := by omega
      subst hkn'
      have HL := hid (show ((List.range M).map o).length = M by rw [List.length_map, List.length_range])
      have HCUT := hid (bcut_any ((List.range M).map o) (some ⟨w.heap.size, 0, none⟩) M wr (row_mag wr _ M _ o HR.out) (by rw [HL.out]; exact Nat.le_refl _) (by rw [HL.out]; have := hM.out; omega))
      rw [HL.out] at HCUT
      go_wp2_with fail
      refine HCUT.out.mono ?_
      rintro r w1 ⟨⟨j, hj, rfl, hv, he⟩, rfl⟩
      have hDo : DigL ((List.range M).map o) := by
        intro d hd
        obtain ⟨i, _, rfl⟩ := List.mem_map.1 hd
        exact HI.out.2.1 i
      obtain ⟨hcan, hlen⟩ := can_take _ j (by rw [HL.out]; exact hj) he
      have HF : Hid (MagOk (natL A * natL B) M (.returned (.slice (some ⟨w.heap.size, 0, none⟩) j M)) w1) := by
        refine ⟨((List.range M).map o).take j, some ⟨w.heap.size, 0, none⟩, M, by rw [hlen], by rw [hlen]; exact hj, by rw [hlen]; exact hj, (row_mag w1 _ M _ o HR.out).take j, hDo.take j, hcan, ?_⟩
        rw [hv, natF_list, HI.out.1, ← hnl.out, List.take_length]
      clear hv he hcan hlen hDo hj
      go_wp2
      go_ret
      exact ⟨HF.out, HBW.out⟩
end Go.Proofs.Ytfdphegiafccpaa
